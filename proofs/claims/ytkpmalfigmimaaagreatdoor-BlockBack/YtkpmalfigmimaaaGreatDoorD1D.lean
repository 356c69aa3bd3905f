import Derived.Test.YtkpmalfigmimaaaGreatDoorD1B
import Derived.Test.YtkpmalfigmimaaaGreatDoorB1N
set_option linter.unusedVariables false
set_option linter.unusedSimpArgs false
set_option maxRecDepth 100000
set_option maxHeartbeats 8000000
namespace Go.Proofs.YtkpmalfigmimaaaGreatDoor
open Go.RowKit
def qAD (x:Nat):List Nat:=[x/16777216%256,x/65536%256,x/256%256,x%256]
theorem qJE (x:Nat):∀n∈qAD x,n<256:=by
 intro n hn
 simp only [qAD,List.mem_cons,List.not_mem_nil,or_false] at hn
 rcases hn with rfl|rfl|rfl|rfl<;>omega
def qO (bs:List Nat):List Nat:=bs++qAD (qB2 bs)
theorem wK (a b:List Nat):xV (fun i=>if i=0 then a else b) 2=a++b:=by simp [xV]
theorem qF7 (bs:List Nat) (hb:∀n∈bs,n<256):qB2 bs<4294967296:=by unfold qB2;omega
theorem qJ8 (q:Nat→List Nat) (m:Nat) (h:∀i,i<m→∀n∈q i,n<256):∀n∈xV q m,n<256:=by
 induction m with
 |zero=>intro n hn;simp [xV] at hn
 |succ m ih=>
  intro n hn
  rw [xV,List.mem_append] at hn
  rcases hn with hn|hn
  ·exact ih (fun i hi=>h i (by omega)) n hn
  ·exact h m (by omega) n hn
theorem dU (p:Option Addr) (m cap:Nat) (q:Nat→List Nat) (w:World) (h:qL w p m q) (hq:∀i,i<m→∀n∈q i,n<256) (hm:m≤100) (hl:(xV q m).length≤100000000) (hT:nG w):
  Calls Tryz.prog 24 #[.slice p m cap] w fun e w'=>∃g,e= .returned (.slice (some ⟨g,0,none⟩) (qO (xV q m)).length (qO (xV q m)).length)∧w.heap.size≤g∧w'.heap[g]?=some (.cells (qM (qO (xV q m))).toArray 5 (0,0))∧Below w.heap.size w w':=by
 have HJ:=qA (pD p m cap q w h hm (by omega))
 have HBB:Hid (∀n∈xV q m,n<256):=qJ8 q m hq
 have HT:=qA hT
 obtain ⟨A,hA⟩:∃A,xV q m=A:=⟨_,rfl⟩
 rw [hA] at HJ HBB hl⊢
 clear h hq hT hA
 go_enter Tryz.func24,Tryz.ntmps24
 go_wp2_with fail
 refine HJ.out.mono ?_
 rintro e w1 ⟨g1,rfl,hg1,hr1,B1⟩
 have HI1:Hid (jW w1 (.slice (some ⟨g1,0,none⟩) A.length A.length) A):= .inl (jD hr1)
 have HB1:Hid (Below w.heap.size w w1):=B1
 have HR1:=qA hr1
 clear hr1 B1 hg1
 go_wp2_with fail
 refine (qC6 _ A w1 HI1.out HBB.out (by omega) (HT.out.below HB1.out)).mono ?_
 rintro e w2 ⟨rfl,hw2⟩
 have hw2:=hw2.symm
 subst hw2
 have hx:=qF7 A HBB.out
 have HF:Hid (qO A=A++qAD (qB2 A)):=rfl
 obtain ⟨x,hxx⟩:∃x,qB2 A=x:=⟨_,rfl⟩
 rw [hxx] at hx HF⊢
 obtain ⟨N,hN⟩:∃N,A.length=N:=⟨_,rfl⟩
 obtain ⟨x3,hx3⟩:∃y,x/16777216%256=y:=⟨_,rfl⟩
 obtain ⟨x2,hx2⟩:∃y,x/65536%256=y:=⟨_,rfl⟩
 obtain ⟨x1,hx1⟩:∃y,x/256%256=y:=⟨_,rfl⟩
 obtain ⟨x0,hx0⟩:∃y,x%256=y:=⟨_,rfl⟩
 have c3:IntKind.u8.wrap ((x:Int)/16777216)=(x3:Int):=by rw [IntKind.wrap_u8];omega
 have c2:IntKind.u8.wrap ((x:Int)/65536)=(x2:Int):=by rw [IntKind.wrap_u8];omega
 have c1:IntKind.u8.wrap ((x:Int)/256)=(x1:Int):=by rw [IntKind.wrap_u8];omega
 have c0:IntKind.u8.wrap (x:Int)=(x0:Int):=by rw [IntKind.wrap_u8];omega
 have h4:qAD x=[x3,x2,x1,x0]:=by unfold qAD;rw [hx3,hx2,hx1,hx0]
 have HL4:=qA (qJE x)
 rw [h4] at HF HL4
 obtain ⟨g2,hg2⟩:∃g2,w1.heap.size=g2:=⟨_,rfl⟩
 have HG2:=qA hg2
 rw [hN]
 have HNN:=qA hN
 clear HJ hxx hx3 hx2 hx1 hx0 h4
 obtain ⟨W4,hW4⟩:∃W4,W4=(w1.alloc (.cells #[.int .u8 (x3:Int),.int .u8 (x2:Int),.int .u8 (x1:Int),.int .u8 (x0:Int)] 5)).alloc (.cells #[.slice (some ⟨g1,0,none⟩) N N,.slice (some ⟨g2,0,none⟩) 4 4] 28):=⟨_,rfl⟩
 have HW4:Hid (Below w1.heap.size w1 W4∧W4.heap[g2]?=some (.cells (qM [x3,x2,x1,x0]).toArray 5 (0,0))∧W4.heap[g2+1]?=some (.cells #[.slice (some ⟨g1,0,none⟩) N N,.slice (some ⟨g2,0,none⟩) 4 4] 28 (0,0))):=by
  have e1:=heap_alloc_new w1 (.cells #[.int .u8 (x3:Int),.int .u8 (x2:Int),.int .u8 (x1:Int),.int .u8 (x0:Int)] 5)
  have e2:=heap_alloc_new (w1.alloc (.cells #[.int .u8 (x3:Int),.int .u8 (x2:Int),.int .u8 (x1:Int),.int .u8 (x0:Int)] 5)) (.cells #[.slice (some ⟨g1,0,none⟩) N N,.slice (some ⟨g2,0,none⟩) 4 4] 28)
  have e3:=xG e1 (.cells #[.slice (some ⟨g1,0,none⟩) N N,.slice (some ⟨g2,0,none⟩) 4 4] 28)
  rw [show (w1.alloc (.cells #[.int .u8 (x3:Int),.int .u8 (x2:Int),.int .u8 (x1:Int),.int .u8 (x0:Int)] 5)).heap.size=w1.heap.size+1 from by simp] at e2
  rw [hg2] at e2 e3
  rw [hW4]
  exact ⟨((Below.refl _ w1).alloc (Nat.le_refl _) _).alloc (by simp) _,e3,e2⟩
 have HP2:Hid (qL W4 (some ⟨g2+1,0,none⟩) 2 (fun i=>if i=0 then A else [x3,x2,x1,x0])):=fun i hi=>by
  have hrow:=HW4.out.2.2
  rcases (show i=0∨i=1 by omega) with rfl|rfl
  ·refine ⟨g2+1,0,_,rfl,cell_of_row _ _ 0 _ _ _ hrow,?_⟩
   have:=qD HI1.out HW4.out.1
   rw [HNN.out] at this
   simpa using this
  ·refine ⟨g2+1,0,_,rfl,cell_of_row _ _ 1 _ _ _ hrow,?_⟩
   have:=jD (cap:=4) HW4.out.2.1
   exact .inl (by simpa using this)
 have HJ2:=qA (pD (some ⟨g2+1,0,none⟩) 2 2 (fun i=>if i=0 then A else [x3,x2,x1,x0]) W4 HP2.out (by omega) (by rw [wK];simp;omega))
 rw [wK,←HF.out] at HJ2
 obtain ⟨SB,hSB⟩:∃SB,qO A=SB:=⟨_,rfl⟩
 rw [hSB] at HJ2
 have HSB:=qA hSB
 obtain ⟨SL,hSL⟩:∃SL,SB.length=SL:=⟨_,rfl⟩
 rw [hSL] at HJ2
 have HSL:=qA hSL
 clear hSB hSL
 go_wp2_with fail
 (try rw [hg2])
 (try rw [←hW4])
 clear hW4 hg2
 refine HJ2.out.mono ?_
 rintro e w5 ⟨g5,rfl,hg5,hr5,B5⟩
 have HFIN:Hid (w.heap.size≤g5∧w5.heap[g5]?=some (.cells (qM SB).toArray 5 (0,0))∧Below w.heap.size w w5):=by
  have b4:=HB1.out.trans (HW4.out.1.mono HB1.out.size)
  exact ⟨Nat.le_trans b4.size hg5,hr5,b4.trans (B5.mono b4.size)⟩
 clear hg5 hr5 B5
 go_wp2_with fail
 go_ret
 rw [HSB.out,HSL.out]
 exact ⟨g5,rfl,HFIN.out.1,HFIN.out.2.1,HFIN.out.2.2⟩
end Go.Proofs.YtkpmalfigmimaaaGreatDoor
namespace Go.Proofs.YtkpmalfigmimaaaGreatDoor
open Go.RowKit
open M
def hdB (kd co ct na F L le gr ti va:Nat):List Bool:=bitsOf 181 8++bitsOf kd 8++bitsOf co 8++bitsOf ct 16++bitsOf na 16++bitsOf F 64++bitsOf L 64++bitsOf le 64++bitsOf gr 64++bitsOf ti 32++bitsOf va 32
theorem xJ (kd co ct na F L le gr ti va:Nat):(hdB kd co ct na F L le gr ti va).length=376:=by simp [hdB]
theorem qDE (kd co ct na F L le gr ti va:Nat) (fi la by_:Int) (w:World) (h0:kd<256) (h1:co<256) (h2:ct<65536) (h3:na<65536) (h4:IntKind.u64.wrap fi=(F:Int)) (h5:IntKind.u64.wrap la=(L:Int)) (hF:F<18446744073709551616) (hL:L<18446744073709551616) (h6:le<18446744073709551616) (h7:gr<18446744073709551616) (h8:ti<4294967296) (h9:va<4294967296):
  Calls Tryz.prog 25 #[.agg #[.int .i64 (kd:Int),.int .i64 (ct:Int),.int .i64 (na:Int),.int .i64 fi,.int .i64 la,.int .u64 (le:Int),.int .u64 (gr:Int),.int .i64 by_,.int .i64 (co:Int),.int .i64 (ti:Int),.int .i64 (va:Int)]] w fun e w'=>∃g,e= .returned (.slice (some ⟨g,0,none⟩) 47 47)∧w.heap.size≤g∧w'.heap[g]?=some (.cells (qM (packed (hdB kd co ct na F L le gr ti va))).toArray 5 (0,0))∧Below w.heap.size w w':=by
 obtain ⟨g0,hg0⟩:∃g0,w.heap.size=g0:=⟨_,rfl⟩
 obtain ⟨W1,hW1⟩:∃W1,W1=w.alloc (.cells #[.int .i64 (kd:Int),.int .i64 (ct:Int),.int .i64 (na:Int),.int .i64 fi,.int .i64 la,.int .u64 (le:Int),.int .u64 (gr:Int),.int .i64 by_,.int .i64 (co:Int),.int .i64 (ti:Int),.int .i64 (va:Int)] 60):=⟨_,rfl⟩
 obtain ⟨g,hg⟩:∃g,g=W1.heap.size:=⟨_,rfl⟩
 obtain ⟨W2,hW2⟩:∃W2,W2=W1.alloc (.cells zW 98):=⟨_,rfl⟩
 have HM:Hid (Wr W2 (g+1) g 0 [] 0∧g+1≤W2.heap.size∧Below g0 w W2∧W2.heap[g0]?=some (.cells #[.int .i64 (kd:Int),.int .i64 (ct:Int),.int .i64 (na:Int),.int .i64 fi,.int .i64 la,.int .u64 (le:Int),.int .u64 (gr:Int),.int .i64 by_,.int .i64 (co:Int),.int .i64 (ti:Int),.int .i64 (va:Int)] 60 (0,0))∧g0<g):=by
  have hs:W1.heap.size=w.heap.size+1:=by rw [hW1];simp
  have B1:Below g0 w W1:=by rw [hW1,←hg0];exact (Below.refl _ w).alloc (Nat.le_refl _) _
  have B2:Below g W1 W2:=by rw [hW2,hg];exact (Below.refl _ W1).alloc (Nat.le_refl _) _
  refine ⟨by rw [hg,hW2];exact gO (heap_alloc_new W1 _),by rw [hW2,hg];simp,B1.trans (B2.mono (by omega)),?_,by omega⟩
  rw [B2.block g0 (by omega),hW1,←hg0];exact heap_alloc_new w _
 have HG0:=qA hg0
 have HROW:Hid (∀wr,qJ g 0 123 W2 wr→wr.heap[g0]?=some (.cells #[.int .i64 (kd:Int),.int .i64 (ct:Int),.int .i64 (na:Int),.int .i64 fi,.int .i64 la,.int .u64 (le:Int),.int .u64 (gr:Int),.int .i64 by_,.int .i64 (co:Int),.int .i64 (ti:Int),.int .i64 (va:Int)] 60 (0,0))∧g+1≤wr.heap.size):=fun wr hO=>⟨by rw [hO.block g0 (by have:=HM.out.2.1;have:=HM.out.2.2.2.2;omega) (by have:=HM.out.2.2.2.2;omega)];exact HM.out.2.2.2.1,by have:=hO.size;have:=HM.out.2.1;omega⟩
 have rkd:IntKind.u64.wrap (kd:Int)=(kd:Int):=by rw [IntKind.wrap_u64];omega
 have rco:IntKind.u64.wrap (co:Int)=(co:Int):=by rw [IntKind.wrap_u64];omega
 have rct:IntKind.u64.wrap (ct:Int)=(ct:Int):=by rw [IntKind.wrap_u64];omega
 have rna:IntKind.u64.wrap (na:Int)=(na:Int):=by rw [IntKind.wrap_u64];omega
 have rti:IntKind.u64.wrap (ti:Int)=(ti:Int):=by rw [IntKind.wrap_u64];omega
 have rva:IntKind.u64.wrap (va:Int)=(va:Int):=by rw [IntKind.wrap_u64];omega
 go_enter Tryz.func25,Tryz.ntmps25
 go_upto_region 1 with fail
 (try rw [hg0])
 (try rw [←hW1])
 clear hW1 hg0
 refine wp_region_list ?_
 refine wpList_build rfl 98 #[] rfl (by kernel_rfl) ?_
 simp only [Array.map_empty]
 rw [zI]
 refine Go.Great.wpList_boxTo rfl 98 (.tmp 6) rfl (some 7) rfl g hg.symm zW rfl ?_
 rw [←hW2]
 clear hW2 hg
 have H0:Hid (Wr W2 (g+1) g 0 [] 0∧qJ g 0 123 W2 W2):=⟨HM.out.1,qJ.refl _ _ _ _⟩
 go_wp2_with fail
 refine (qK g 0 (g+1) 8 181 W2 _ H0.out.1 (by omega) (HROW.out W2 H0.out.2).2 (by simp) (by omega) (by omega) (by omega)).mono ?_
 rintro e v0 ⟨rfl,X0,O0⟩
 have H1:Hid (Wr v0 (g+1) g 0 ([]++bitsOf 181 8) 0∧qJ g 0 123 W2 v0):=⟨X0,H0.out.2.trans O0⟩
 clear X0 O0
 have c1:=cell_of_row _ _ 0 _ _ _ (HROW.out v0 H1.out.2).1
 simp only [List.getElem?_toArray,List.getElem?_cons_zero,List.getElem?_cons_succ] at c1
 go_wp2_with fail
 refine (qK g 0 (g+1) 8 kd v0 _ H1.out.1 (by omega) (HROW.out v0 H1.out.2).2 (by simp) (by omega) (by omega) (by omega)).mono ?_
 rintro e v1 ⟨rfl,X1,O1⟩
 have H2:Hid (Wr v1 (g+1) g 0 ([]++bitsOf 181 8++bitsOf kd 8) 0∧qJ g 0 123 W2 v1):=⟨X1,H1.out.2.trans O1⟩
 clear X1 O1 c1
 have c2:=cell_of_row _ _ 8 _ _ _ (HROW.out v1 H2.out.2).1
 simp only [List.getElem?_toArray,List.getElem?_cons_zero,List.getElem?_cons_succ] at c2
 go_wp2_with fail
 refine (qK g 0 (g+1) 8 co v1 _ H2.out.1 (by omega) (HROW.out v1 H2.out.2).2 (by simp) (by omega) (by omega) (by omega)).mono ?_
 rintro e v2 ⟨rfl,X2,O2⟩
 have H3:Hid (Wr v2 (g+1) g 0 ([]++bitsOf 181 8++bitsOf kd 8++bitsOf co 8) 0∧qJ g 0 123 W2 v2):=⟨X2,H2.out.2.trans O2⟩
 clear X2 O2 c2
 have c3:=cell_of_row _ _ 1 _ _ _ (HROW.out v2 H3.out.2).1
 simp only [List.getElem?_toArray,List.getElem?_cons_zero,List.getElem?_cons_succ] at c3
 go_wp2_with fail
 refine (qK g 0 (g+1) 16 ct v2 _ H3.out.1 (by omega) (HROW.out v2 H3.out.2).2 (by simp) (by omega) (by omega) (by omega)).mono ?_
 rintro e v3 ⟨rfl,X3,O3⟩
 have H4:Hid (Wr v3 (g+1) g 0 ([]++bitsOf 181 8++bitsOf kd 8++bitsOf co 8++bitsOf ct 16) 0∧qJ g 0 123 W2 v3):=⟨X3,H3.out.2.trans O3⟩
 clear X3 O3 c3
 have c4:=cell_of_row _ _ 2 _ _ _ (HROW.out v3 H4.out.2).1
 simp only [List.getElem?_toArray,List.getElem?_cons_zero,List.getElem?_cons_succ] at c4
 go_wp2_with fail
 refine (qK g 0 (g+1) 16 na v3 _ H4.out.1 (by omega) (HROW.out v3 H4.out.2).2 (by simp) (by omega) (by omega) (by omega)).mono ?_
 rintro e v4 ⟨rfl,X4,O4⟩
 have H5:Hid (Wr v4 (g+1) g 0 ([]++bitsOf 181 8++bitsOf kd 8++bitsOf co 8++bitsOf ct 16++bitsOf na 16) 0∧qJ g 0 123 W2 v4):=⟨X4,H4.out.2.trans O4⟩
 clear X4 O4 c4
 have c5:=cell_of_row _ _ 3 _ _ _ (HROW.out v4 H5.out.2).1
 simp only [List.getElem?_toArray,List.getElem?_cons_zero,List.getElem?_cons_succ] at c5
 go_wp2_with fail
 refine (qK g 0 (g+1) 64 F v4 _ H5.out.1 (by omega) (HROW.out v4 H5.out.2).2 (by simp) (by omega) (by omega) (by omega)).mono ?_
 rintro e v5 ⟨rfl,X5,O5⟩
 have H6:Hid (Wr v5 (g+1) g 0 ([]++bitsOf 181 8++bitsOf kd 8++bitsOf co 8++bitsOf ct 16++bitsOf na 16++bitsOf F 64) 0∧qJ g 0 123 W2 v5):=⟨X5,H5.out.2.trans O5⟩
 clear X5 O5 c5
 have c6:=cell_of_row _ _ 4 _ _ _ (HROW.out v5 H6.out.2).1
 simp only [List.getElem?_toArray,List.getElem?_cons_zero,List.getElem?_cons_succ] at c6
 go_wp2_with fail
 refine (qK g 0 (g+1) 64 L v5 _ H6.out.1 (by omega) (HROW.out v5 H6.out.2).2 (by simp) (by omega) (by omega) (by omega)).mono ?_
 rintro e v6 ⟨rfl,X6,O6⟩
 have H7:Hid (Wr v6 (g+1) g 0 ([]++bitsOf 181 8++bitsOf kd 8++bitsOf co 8++bitsOf ct 16++bitsOf na 16++bitsOf F 64++bitsOf L 64) 0∧qJ g 0 123 W2 v6):=⟨X6,H6.out.2.trans O6⟩
 clear X6 O6 c6
 have c7:=cell_of_row _ _ 5 _ _ _ (HROW.out v6 H7.out.2).1
 simp only [List.getElem?_toArray,List.getElem?_cons_zero,List.getElem?_cons_succ] at c7
 go_wp2_with fail
 refine (qK g 0 (g+1) 64 le v6 _ H7.out.1 (by omega) (HROW.out v6 H7.out.2).2 (by simp) (by omega) (by omega) (by omega)).mono ?_
 rintro e v7 ⟨rfl,X7,O7⟩
 have H8:Hid (Wr v7 (g+1) g 0 ([]++bitsOf 181 8++bitsOf kd 8++bitsOf co 8++bitsOf ct 16++bitsOf na 16++bitsOf F 64++bitsOf L 64++bitsOf le 64) 0∧qJ g 0 123 W2 v7):=⟨X7,H7.out.2.trans O7⟩
 clear X7 O7 c7
 have c8:=cell_of_row _ _ 6 _ _ _ (HROW.out v7 H8.out.2).1
 simp only [List.getElem?_toArray,List.getElem?_cons_zero,List.getElem?_cons_succ] at c8
 go_wp2_with fail
 refine (qK g 0 (g+1) 64 gr v7 _ H8.out.1 (by omega) (HROW.out v7 H8.out.2).2 (by simp) (by omega) (by omega) (by omega)).mono ?_
 rintro e v8 ⟨rfl,X8,O8⟩
 have H9:Hid (Wr v8 (g+1) g 0 ([]++bitsOf 181 8++bitsOf kd 8++bitsOf co 8++bitsOf ct 16++bitsOf na 16++bitsOf F 64++bitsOf L 64++bitsOf le 64++bitsOf gr 64) 0∧qJ g 0 123 W2 v8):=⟨X8,H8.out.2.trans O8⟩
 clear X8 O8 c8
 have c9:=cell_of_row _ _ 9 _ _ _ (HROW.out v8 H9.out.2).1
 simp only [List.getElem?_toArray,List.getElem?_cons_zero,List.getElem?_cons_succ] at c9
 go_wp2_with fail
 refine (qK g 0 (g+1) 32 ti v8 _ H9.out.1 (by omega) (HROW.out v8 H9.out.2).2 (by simp) (by omega) (by omega) (by omega)).mono ?_
 rintro e v9 ⟨rfl,X9,O9⟩
 have H10:Hid (Wr v9 (g+1) g 0 ([]++bitsOf 181 8++bitsOf kd 8++bitsOf co 8++bitsOf ct 16++bitsOf na 16++bitsOf F 64++bitsOf L 64++bitsOf le 64++bitsOf gr 64++bitsOf ti 32) 0∧qJ g 0 123 W2 v9):=⟨X9,H9.out.2.trans O9⟩
 clear X9 O9 c9
 have c10:=cell_of_row _ _ 10 _ _ _ (HROW.out v9 H10.out.2).1
 simp only [List.getElem?_toArray,List.getElem?_cons_zero,List.getElem?_cons_succ] at c10
 go_wp2_with fail
 refine (qK g 0 (g+1) 32 va v9 _ H10.out.1 (by omega) (HROW.out v9 H10.out.2).2 (by simp) (by omega) (by omega) (by omega)).mono ?_
 rintro e v10 ⟨rfl,X10,O10⟩
 have H11:Hid (Wr v10 (g+1) g 0 ([]++bitsOf 181 8++bitsOf kd 8++bitsOf co 8++bitsOf ct 16++bitsOf na 16++bitsOf F 64++bitsOf L 64++bitsOf le 64++bitsOf gr 64++bitsOf ti 32++bitsOf va 32) 0∧qJ g 0 123 W2 v10):=⟨X10,H10.out.2.trans O10⟩
 clear X10 O10 c10
 have HD:Hid (Wr v10 (g+1) g 0 (hdB kd co ct na F L le gr ti va) 0):=by
  have h:=H11.out.1
  show Wr v10 (g+1) g 0 (hdB kd co ct na F L le gr ti va) 0
  unfold hdB
  simpa using h
 have hlen:=xJ kd co ct na F L le gr ti va
 obtain ⟨l,hl⟩:∃l,hdB kd co ct na F L le gr ti va=l:=⟨_,rfl⟩
 rw [hl] at HD hlen
 have HLE:=qA hl
 have HLEN:=qA hlen
 clear hl hlen
 go_wp2_with fail
 refine (qW g 0 (g+1) v10 _ HD.out (HROW.out v10 H11.out.2).2 (by rw [HLEN.out];omega) _ rfl).mono ?_
 rintro e w9 ⟨rfl,G9,B9⟩
 rw [packed_length,HLEN.out]
 have HFIN:Hid (w.heap.size≤v10.heap.size∧w9.heap[v10.heap.size]?=some (.cells (qM (packed l)).toArray 5 (0,0))∧Below w.heap.size w w9):=by
  have e3:=HM.out.2.2.1
  have e4:=HM.out.2.2.2.2
  have e5:=H11.out.2.below (B:=g0) (by omega) (by have:=HM.out.2.1;omega)
  rw [HG0.out]
  exact ⟨by have:=e5.size;have:=HM.out.2.1;omega,G9,(e3.trans e5).trans (B9.mono (by have:=e5.size;have:=HM.out.2.1;omega))⟩
 clear G9 B9
 go_wp2_with fail
 go_ret
 rw [HLE.out]
 exact ⟨v10.heap.size,rfl,HFIN.out.1,HFIN.out.2.1,HFIN.out.2.2⟩
end Go.Proofs.YtkpmalfigmimaaaGreatDoor
