import Derived.Test.YtkpmalfigmimaaaGreatDoorZ0
import Derived.Test.YtkpmalfigmimaaaGreatDoorD1E
import Derived.Test.YtkpmalfigmimaaaGreatDoorD1D
import Derived.Test.YtkpmalfigmimaaaGreatDoorD1B
set_option linter.unusedVariables false
set_option linter.unusedSimpArgs false
set_option maxRecDepth 100000
set_option maxHeartbeats 8000000
namespace Go.Proofs.YtkpmalfigmimaaaGreatDoor
open Go.RowKit
open M
theorem lR (k:Nat) (w:World) (h1:1≤k) (h6:k≤6):Calls Tryz.prog 77 #[.int .i64 (k:Int)] w fun e w'=>e= .returned (.bool true)∧w'=w:=by
 go_enter Tryz.func77,Tryz.ntmps77
 go_wp2_with fail
 go_ret
 exact ⟨by simp<;>omega,rfl⟩
theorem sP (kd ct na le gr co ti va:Nat) (fi la by_:Int) (w:World) (h:if ct=1 then la=fi else fi<la):
  Calls Tryz.prog 78 #[.agg #[.int .i64 (kd:Int),.int .i64 (ct:Int),.int .i64 (na:Int),.int .i64 fi,.int .i64 la,.int .u64 (le:Int),.int .u64 (gr:Int),.int .i64 by_,.int .i64 (co:Int),.int .i64 (ti:Int),.int .i64 (va:Int)]] w fun e w'=>e= .returned (.bool true)∧Below w.heap.size w w':=by
 have HB:Hid (Below w.heap.size w (w.alloc (.cells #[.int .i64 (kd:Int),.int .i64 (ct:Int),.int .i64 (na:Int),.int .i64 fi,.int .i64 la,.int .u64 (le:Int),.int .u64 (gr:Int),.int .i64 by_,.int .i64 (co:Int),.int .i64 (ti:Int),.int .i64 (va:Int)] 60))):=(Below.refl _ _).alloc (Nat.le_refl _) _
 by_cases h1:ct=1
 ·rw [if_pos h1] at h
  subst h1
  subst h
  go_enter Tryz.func78,Tryz.ntmps78
  go_wp2_with fail
  go_ret
  exact ⟨by simp,HB.out⟩
 ·rw [if_neg h1] at h
  have e1:((ct:Int)==1)=false:=by rw [beq_eq_false_iff_ne];omega
  go_enter Tryz.func78,Tryz.ntmps78
  go_wp2_with fail
  go_ret
  exact ⟨by simp<;>omega,HB.out⟩
structure qLM (kd ct na co:Nat) (fi la:Int):Prop where
 kd:kd=1∨kd=2
 co1:1≤co
 co6:co≤6
 ct1:1≤ct
 ct4:ct≤4096
 na:na≤ct
 span:if ct=1 then la=fi else fi<la
theorem qFI (kd ct na le gr co ti va:Nat) (fi la by_:Int) (w:World) (h:qLM kd ct na co fi la):
  Calls Tryz.prog 48 #[.agg #[.int .i64 (kd:Int),.int .i64 (ct:Int),.int .i64 (na:Int),.int .i64 fi,.int .i64 la,.int .u64 (le:Int),.int .u64 (gr:Int),.int .i64 by_,.int .i64 (co:Int),.int .i64 (ti:Int),.int .i64 (va:Int)]] w fun e w'=>e= .returned (.bool true)∧Below w.heap.size w w':=by
 have HK:Hid (∀w,Calls Tryz.prog 59 #[.int .i64 (kd:Int)] w fun e w'=>e= .returned (.bool true)∧w'=w):=fun w=>by
  have:=dK (kd:Int) w
  rw [decide_eq_true (by rcases h.kd with h|h<;>omega)] at this;exact this
 have HC:Hid (∀w,Calls Tryz.prog 60 #[.int .i64 (ct:Int)] w fun e w'=>e= .returned (.bool true)∧w'=w):=fun w=>by
  have:=bB ct w (by have:=h.ct4;omega)
  rw [decide_eq_true ⟨h.ct1,h.ct4⟩] at this;exact this
 have HD:=qA (fun w:World=>lR co w h.co1 h.co6)
 have HS:=qA (fun w:World=>sP kd ct na le gr co ti va fi la by_ w h.span)
 have hna:(na:Int)≤(ct:Int):=by have:=h.na;omega
 clear h
 obtain ⟨g,hg⟩:∃g,w.heap.size=g:=⟨_,rfl⟩
 obtain ⟨W1,hW1⟩:∃W1,w.alloc (.cells #[.int .i64 (kd:Int),.int .i64 (ct:Int),.int .i64 (na:Int),.int .i64 fi,.int .i64 la,.int .u64 (le:Int),.int .u64 (gr:Int),.int .i64 by_,.int .i64 (co:Int),.int .i64 (ti:Int),.int .i64 (va:Int)] 60)=W1:=⟨_,rfl⟩
 have HW:Hid (W1.heap[g]?=some (.cells #[.int .i64 (kd:Int),.int .i64 (ct:Int),.int .i64 (na:Int),.int .i64 fi,.int .i64 la,.int .u64 (le:Int),.int .u64 (gr:Int),.int .i64 by_,.int .i64 (co:Int),.int .i64 (ti:Int),.int .i64 (va:Int)] 60 (0,0))∧Below g w W1):=by rw [←hW1,←hg];exact ⟨heap_alloc_new _ _,(Below.refl _ _).alloc (Nat.le_refl _) _⟩
 have HG:=qA hg
 obtain ⟨o0,o1,o2,o3,o4,o5,o6,o7,o8,o9,o10⟩:=rowcells11 HW.out.1
 go_enter Tryz.func48,Tryz.ntmps48
 go_wp2_with fail
 (try rw [hW1])
 (try rw [hg])
 clear hW1 hg
 refine (HK.out _).mono ?_
 rintro e w2 ⟨rfl,hw⟩
 obtain rfl:=hw
 go_wp2_with fail
 refine (HD.out _).mono ?_
 rintro e w3 ⟨rfl,hw⟩
 obtain rfl:=hw
 go_wp2_with fail
 refine (HC.out _).mono ?_
 rintro e w4 ⟨rfl,hw⟩
 obtain rfl:=hw
 go_wp2_with fail
 refine (HS.out _).mono ?_
 rintro e w5 ⟨rfl,B5⟩
 have HF:Hid (Below w.heap.size w w5):=by rw [HG.out];exact HW.out.2.trans (B5.mono (Nat.le_of_lt (qB HW.out.1)))
 clear B5 HW o0 o1 o2 o3 o4 o5 o6 o7 o8 o9 o10
 go_wp2_with fail
 go_ret
 exact ⟨rfl,HF.out⟩
theorem qH4 (x:Nat) (h:x<4294967296):x/16777216%256*16777216+x/65536%256*65536+x/256%256*256+x%256=x:=by omega
def qS (w:World) (b o:Nat) (bs:List Nat):Prop:=∀i,i<bs.length→w.cell? ⟨b,o+i,none⟩=some (.int .u8 ((bs.getD i 0:Nat):Int))
theorem qS.left {w:World} {b o:Nat} {xs ys:List Nat} (h:qS w b o (xs++ys)):qS w b o xs:=fun i hi=>by
 have:=h i (by rw [List.length_append];omega)
 rw [this,List.getD_eq_getElem?_getD,List.getD_eq_getElem?_getD,List.getElem?_append_left hi]
theorem qS.right {w:World} {b o:Nat} {xs ys:List Nat} (h:qS w b o (xs++ys)):qS w b (o+xs.length) ys:=fun i hi=>by
 have:=h (xs.length+i) (by rw [List.length_append];omega)
 rw [Nat.add_assoc,this,List.getD_eq_getElem?_getD,List.getD_eq_getElem?_getD,List.getElem?_append_right (by omega),Nat.add_sub_cancel_left]
theorem qS.below {w w':World} {b o:Nat} {bs:List Nat} (h:qS w b o bs) (hB:Below w.heap.size w w'):qS w' b o bs:=fun i hi=>by
 rw [hB.cell (p:=⟨b,o+i,none⟩) (block_lt_of_cell (h i hi))];exact h i hi
theorem qS.by_ {w:World} {b o:Nat} {bs:List Nat} (h:qS w b o bs) (cap:Nat):jW w (.slice (some ⟨b,o,none⟩) bs.length cap) bs:= .inl (.inr ⟨b,o,cap,rfl,h⟩)
theorem gJ (b o cap:Nat) (bs:List Nat) (w:World) (h:qS w b o (qO bs)) (hb:∀n∈bs,n<256) (hl:bs.length≤1000000000) (hcap:bs.length+4≤cap) (hT:nG w):
  Calls Tryz.prog 46 #[.slice (some ⟨b,o,none⟩) (bs.length+4) cap] w fun e w'=>e= .returned (.tuple #[.slice (some ⟨b,o,none⟩) bs.length cap,.bool true])∧∃m,w'=w.drewN m:=by
 have hL:qS w b o bs:=qS.left h
 have hR:qS w b (o+bs.length) (qAD (qB2 bs)):=qS.right h
 have r0:=hR 0 (by simp [qAD])
 have r1:=hR 1 (by simp [qAD])
 have r2:=hR 2 (by simp [qAD])
 have r3:=hR 3 (by simp [qAD])
 have hu:=qA8 b o bs.length cap bs (qB2 bs/16777216%256) (qB2 bs/65536%256) (qB2 bs/256%256) (qB2 bs%256) w rfl hL hb hl hcap (Nat.mod_lt _ (by omega)) (Nat.mod_lt _ (by omega)) (Nat.mod_lt _ (by omega)) (Nat.mod_lt _ (by omega)) (by simpa [qAD] using r0) (by simpa [qAD,Nat.add_assoc] using r1) (by simpa [qAD,Nat.add_assoc] using r2) (by simpa [qAD,Nat.add_assoc] using r3) hT
 rw [qH4 _ (qF7 bs hb),decide_eq_true rfl] at hu
 exact hu
def qEF (A:Array Value) (c:Int) (w:World) (e:Ending) (w':World):Prop:=e= .returned (.tuple #[.agg A,.int .i64 c])∧Below w.heap.size w w'
theorem qB5 (kd co ct na F L le gr ti va:Nat) (fi la:Int) (b o n cap:Nat) (w:World) (hc:qS w b o (qO (packed (hdB kd co ct na F L le gr ti va)))) (hn:51≤n) (hcap:n≤cap) (hn2:n≤1000000000000) (hok:qLM kd ct na co fi la) (hF:F<18446744073709551616) (hL:L<18446744073709551616) (h6:le<18446744073709551616) (h7:gr<18446744073709551616) (h8:ti<4294967296) (h9:va<4294967296) (h4:IntKind.i64.wrap (F:Int)=fi) (h5:IntKind.i64.wrap (L:Int)=la) (hT:nG w):
  Calls Tryz.prog 26 #[.slice (some ⟨b,o,none⟩) n cap] w (qEF (hdA kd ct na fi la le gr ((ti:Int)+(va:Int)+55) co ti va) 0 w):=by
 obtain ⟨hb,hhb⟩:∃hb,packed (hdB kd co ct na F L le gr ti va)=hb:=⟨_,rfl⟩
 have hl47:hb.length=47:=by rw [←hhb,packed_length,xJ]
 have h256:∀n∈hb,n<256:=by rw [←hhb];exact zU _
 have hmark:hb.getD 0 0=181:=by
  rw [←hhb,packed_getD _ 0 (by rw [xJ];omega)]
  unfold hdB
  simp only [List.append_assoc]
  rw [byteAt_full _ _ 0 (by simp)]
  decide
 have HOf:=qA (fun (w1:World) (hv:jW w1 (.slice (some ⟨b,o,none⟩) 47 cap) hb)=>qDG kd co ct na F L le gr ti va fi la (.slice (some ⟨b,o,none⟩) 47 cap) w1 (by rw [hhb];exact hv) (by rcases hok.kd with h|h<;>omega) (by have:=hok.co6;omega) (by have:=hok.ct4;omega) (by have:=hok.na;have:=hok.ct4;omega) hF hL h6 h7 h8 h9 h4 h5)
 rw [hhb] at hc
 have HMB:=qA (fun w:World=>qFI kd ct na le gr co ti va fi la ((ti:Int)+(va:Int)+55) w hok)
 have HUn:=qA (fun (w1:World) (hB:Below w.heap.size w w1)=>gJ b o cap hb w1 (hc.below hB) h256 (by omega) (by omega) (hT.below hB))
 rw [hl47] at HUn
 have HBy:Hid (∀w1,Below w.heap.size w w1→jW w1 (.slice (some ⟨b,o,none⟩) 47 cap) hb):=fun w1 hB=>by
  have:=((qS.left hc).below hB).by_ cap
  rw [hl47] at this;exact this
 have HC0:Hid (w.cell? ⟨b,o,none⟩=some (.int .u8 181)):=by
  have:=(qS.left hc) 0 (by omega)
  rw [hmark] at this
  show _=_
  simpa using this
 obtain ⟨g0,hg0⟩:∃g,w.heap.size=g:=⟨_,rfl⟩
 obtain ⟨W1,hW1⟩:∃W1,w.alloc (.cells #[.int .i64 0,.int .i64 0,.int .i64 0,.int .i64 0,.int .i64 0,.int .u64 0,.int .u64 0,.int .i64 0,.int .i64 0,.int .i64 0,.int .i64 0] 60)=W1:=⟨_,rfl⟩
 have HW1:Hid (W1.heap[g0]?=some (.cells #[.int .i64 0,.int .i64 0,.int .i64 0,.int .i64 0,.int .i64 0,.int .u64 0,.int .u64 0,.int .i64 0,.int .i64 0,.int .i64 0,.int .i64 0] 60 (0,0))∧Below w.heap.size w W1∧g0<W1.heap.size):=by rw [←hW1,←hg0];exact ⟨heap_alloc_new _ _,(Below.refl _ _).alloc (Nat.le_refl _) _,by simp⟩
 have c0:W1.cell? ⟨b,o,none⟩=some (.int .u8 181):=by rw [HW1.out.2.1.cell (p:=⟨b,o,none⟩) (block_lt_of_cell HC0.out)];exact HC0.out
 have HG:=qA hg0
 clear hc hok hF hL h6 h7 h8 h9 h4 h5 hT hhb hl47 h256 hmark HC0
 go_enter Tryz.func26,Tryz.ntmps26
 go_wp2_with fail
 (try rw [hW1])
 (try rw [hg0])
 clear hW1 hg0
 refine (HUn.out W1 HW1.out.2.1).mono ?_
 rintro e w2 ⟨rfl,md,rfl⟩
 have HB2:Hid (Below w.heap.size w (W1.drewN md)):=⟨HW1.out.2.1.os,HW1.out.2.1.tape,HW1.out.2.1.output,HW1.out.2.1.size,HW1.out.2.1.block⟩
 have HR2:Hid ((W1.drewN md).heap[g0]?=some (.cells #[.int .i64 0,.int .i64 0,.int .i64 0,.int .i64 0,.int .i64 0,.int .u64 0,.int .u64 0,.int .i64 0,.int .i64 0,.int .i64 0,.int .i64 0] 60 (0,0))∧g0<(W1.drewN md).heap.size):=⟨HW1.out.1,HW1.out.2.2⟩
 clear HUn HW1 c0
 generalize W1.drewN md=W2 at*
 go_wp2_with fail
 refine (HOf.out W2 (HBy.out W2 HB2.out)).mono ?_
 rintro e w3 ⟨rfl,B3⟩
 have HB3:Hid (Below w.heap.size w w3):=HB2.out.trans (B3.mono HB2.out.size)
 have HR3:Hid (w3.heap[g0]?=some (.cells #[.int .i64 0,.int .i64 0,.int .i64 0,.int .i64 0,.int .i64 0,.int .u64 0,.int .u64 0,.int .i64 0,.int .i64 0,.int .i64 0,.int .i64 0] 60 (0,0))∧g0<w3.heap.size):=⟨by rw [B3.block g0 HR2.out.2];exact HR2.out.1,Nat.lt_of_lt_of_le HR2.out.2 B3.size⟩
 clear B3 HOf HB2 HR2 HBy
 unfold hdA
 obtain ⟨h,hh⟩:∃h,w3.heap.size=h:=⟨_,rfl⟩
 obtain ⟨W4,hW4⟩:∃W4,w3.alloc (.cells #[.int .i64 (kd:Int),.int .i64 (ct:Int),.int .i64 (na:Int),.int .i64 fi,.int .i64 la,.int .u64 (le:Int),.int .u64 (gr:Int),.int .i64 ((ti:Int)+(va:Int)+55),.int .i64 (co:Int),.int .i64 (ti:Int),.int .i64 (va:Int)] 60)=W4:=⟨_,rfl⟩
 have HW4:Hid (W4.heap[h]?=some (.cells #[.int .i64 (kd:Int),.int .i64 (ct:Int),.int .i64 (na:Int),.int .i64 fi,.int .i64 la,.int .u64 (le:Int),.int .u64 (gr:Int),.int .i64 ((ti:Int)+(va:Int)+55),.int .i64 (co:Int),.int .i64 (ti:Int),.int .i64 (va:Int)] 60 (0,0))∧Below w3.heap.size w3 W4):=by rw [←hW4,←hh];exact ⟨heap_alloc_new _ _,(Below.refl _ _).alloc (Nat.le_refl _) _⟩
 obtain ⟨o0,o1,o2,o3,o4,o5,o6,o7,o8,o9,o10⟩:=rowcells11 HW4.out.1
 go_wp2_with fail
 (try rw [hW4])
 (try rw [hh])
 clear hW4 hh
 refine (HMB.out W4).mono ?_
 rintro e w5 ⟨rfl,B5⟩
 have HW5:Hid (w5.heap[h]?=some (.cells #[.int .i64 (kd:Int),.int .i64 (ct:Int),.int .i64 (na:Int),.int .i64 fi,.int .i64 la,.int .u64 (le:Int),.int .u64 (gr:Int),.int .i64 ((ti:Int)+(va:Int)+55),.int .i64 (co:Int),.int .i64 (ti:Int),.int .i64 (va:Int)] 60 (0,0))∧w5.heap[g0]?=some (.cells #[.int .i64 0,.int .i64 0,.int .i64 0,.int .i64 0,.int .i64 0,.int .u64 0,.int .u64 0,.int .i64 0,.int .i64 0,.int .i64 0,.int .i64 0] 60 (0,0))∧Below w.heap.size w w5):=by
  have B35:Below w3.heap.size w3 w5:=HW4.out.2.trans (B5.mono HW4.out.2.size)
  exact ⟨by rw [B5.block h (qB HW4.out.1)];exact HW4.out.1,by rw [B35.block g0 HR3.out.2];exact HR3.out.1,HB3.out.trans (B35.mono HB3.out.size)⟩
 clear B5 HW4 HR3 HB3 HMB o0 o1 o2 o3 o4 o5 o6 o7 o8 o9 o10
 obtain ⟨o0,o1,o2,o3,o4,o5,o6,o7,o8,o9,o10⟩:=rowcells11 HW5.out.1
 obtain ⟨z0,z1,z2,z3,z4,z5,z6,z7,z8,z9,z10⟩:=rowcells11 HW5.out.2.1
 have y0:=froz HW5.out.2.1 0
 have y1:=froz HW5.out.2.1 1
 have y2:=froz HW5.out.2.1 2
 have y3:=froz HW5.out.2.1 3
 have y4:=froz HW5.out.2.1 4
 have y5:=froz HW5.out.2.1 5
 have y6:=froz HW5.out.2.1 6
 have y7:=froz HW5.out.2.1 7
 have y8:=froz HW5.out.2.1 8
 have y9:=froz HW5.out.2.1 9
 have y10:=froz HW5.out.2.1 10
 have HFR:Hid ((((((((((((w5.setCell ⟨g0,0,none⟩ (.int .i64 (kd:Int))).setCell ⟨g0,1,none⟩ (.int .i64 (ct:Int))).setCell ⟨g0,2,none⟩ (.int .i64 (na:Int))).setCell ⟨g0,3,none⟩ (.int .i64 fi)).setCell ⟨g0,4,none⟩ (.int .i64 la)).setCell ⟨g0,5,none⟩ (.int .u64 (le:Int))).setCell ⟨g0,6,none⟩ (.int .u64 (gr:Int))).setCell ⟨g0,7,none⟩ (.int .i64 ((ti:Int)+(va:Int)+55))).setCell ⟨g0,8,none⟩ (.int .i64 (co:Int))).setCell ⟨g0,9,none⟩ (.int .i64 (ti:Int))).setCell ⟨g0,10,none⟩ (.int .i64 (va:Int))).heap[g0]?=some (.cells #[.int .i64 (kd:Int),.int .i64 (ct:Int),.int .i64 (na:Int),.int .i64 fi,.int .i64 la,.int .u64 (le:Int),.int .u64 (gr:Int),.int .i64 ((ti:Int)+(va:Int)+55),.int .i64 (co:Int),.int .i64 (ti:Int),.int .i64 (va:Int)] 60 (0,0))∧Below w.heap.size w (((((((((((w5.setCell ⟨g0,0,none⟩ (.int .i64 (kd:Int))).setCell ⟨g0,1,none⟩ (.int .i64 (ct:Int))).setCell ⟨g0,2,none⟩ (.int .i64 (na:Int))).setCell ⟨g0,3,none⟩ (.int .i64 fi)).setCell ⟨g0,4,none⟩ (.int .i64 la)).setCell ⟨g0,5,none⟩ (.int .u64 (le:Int))).setCell ⟨g0,6,none⟩ (.int .u64 (gr:Int))).setCell ⟨g0,7,none⟩ (.int .i64 ((ti:Int)+(va:Int)+55))).setCell ⟨g0,8,none⟩ (.int .i64 (co:Int))).setCell ⟨g0,9,none⟩ (.int .i64 (ti:Int))).setCell ⟨g0,10,none⟩ (.int .i64 (va:Int)))):=⟨fP _ _ _ _ _ _ _ _ _ _ _ _ _ _ _ _ _ _ _ _ _ _ _ _ _ HW5.out.2.1,nS HW5.out.2.2 _ _ _ _ _ _ _ _ _ _ _ _ (Nat.le_of_eq HG.out)⟩
 clear HW5
 go_wp2_with fail
 generalize (((((((((((w5.setCell ⟨g0,0,none⟩ (.int .i64 (kd:Int))).setCell ⟨g0,1,none⟩ (.int .i64 (ct:Int))).setCell ⟨g0,2,none⟩ (.int .i64 (na:Int))).setCell ⟨g0,3,none⟩ (.int .i64 fi)).setCell ⟨g0,4,none⟩ (.int .i64 la)).setCell ⟨g0,5,none⟩ (.int .u64 (le:Int))).setCell ⟨g0,6,none⟩ (.int .u64 (gr:Int))).setCell ⟨g0,7,none⟩ (.int .i64 ((ti:Int)+(va:Int)+55))).setCell ⟨g0,8,none⟩ (.int .i64 (co:Int))).setCell ⟨g0,9,none⟩ (.int .i64 (ti:Int))).setCell ⟨g0,10,none⟩ (.int .i64 (va:Int)))=WF at*
 obtain ⟨u0,u1,u2,u3,u4,u5,u6,u7,u8,u9,u10⟩:=rowcells11 HFR.out.1
 exact bodyPost_ret (v:= .tuple #[.agg (hdA kd ct na fi la le gr ((ti:Int)+(va:Int)+55) co ti va),.int .i64 0]) (by simp [results,Tryz.results26,go_sem,hdA,u0,u1,u2,u3,u4,u5,u6,u7,u8,u9,u10]) rfl ⟨rfl,HFR.out.2⟩
end Go.Proofs.YtkpmalfigmimaaaGreatDoor
namespace Go.Proofs.YtkpmalfigmimaaaGreatDoor
open Go.RowKit
open M
def qGQ (A:Array Value) (c:Int) (w:World) (e:Ending) (w':World):Prop:=e= .returned (.tuple #[.agg A,.int .i64 c])∧Below w.heap.size w w'
theorem cN (kd co ct na le gr ti va:Nat) (fi la:Int) (b o K:Nat) (tb vb:List Nat) (w:World) (hc:qS w b (o+51) (qO (tb++vb))) (htb:tb.length=ti) (hvb:vb.length=va) (ht:∀n∈tb,n<256) (hv:∀n∈vb,n<256) (hK:ti+va+4≤K) (hti:ti≤100000) (hva:va≤100000) (hKm:K≤9223372036854775756) (hT:nG w):
  Calls Tryz.prog 27 #[.agg #[.int .i64 (kd:Int),.int .i64 (ct:Int),.int .i64 (na:Int),.int .i64 fi,.int .i64 la,.int .u64 (le:Int),.int .u64 (gr:Int),.int .i64 ((ti:Int)+(va:Int)+55),.int .i64 (co:Int),.int .i64 (ti:Int),.int .i64 (va:Int)],.slice (some ⟨b,o,none⟩) (ti+va+55) (K+51)] w (qGQ (ptA kd ct na fi la le gr ((ti:Int)+(va:Int)+55) co ti va (.slice (some ⟨b,o+51,none⟩) ti K) (.slice (some ⟨b,o+51+ti,none⟩) va (K-ti))) 0 w):=by
 have HUn:=qA (fun (w1:World) (hB:Below w.heap.size w w1)=>gJ b (o+51) K (tb++vb) w1 (hc.below hB) (fun n hn=>by rcases List.mem_append.1 hn with h|h;exact ht n h;exact hv n h) (by rw [List.length_append];omega) (by rw [List.length_append];omega) (hT.below hB))
 rw [List.length_append,htb,hvb] at HUn
 clear hc htb hvb ht hv hT
 obtain ⟨q,hq⟩:∃q,w.heap.size=q:=⟨_,rfl⟩
 obtain ⟨W1,hW1⟩:∃W1,(w.alloc (.cells #[.int .i64 (kd:Int),.int .i64 (ct:Int),.int .i64 (na:Int),.int .i64 fi,.int .i64 la,.int .u64 (le:Int),.int .u64 (gr:Int),.int .i64 ((ti:Int)+(va:Int)+55),.int .i64 (co:Int),.int .i64 (ti:Int),.int .i64 (va:Int)] 60)).alloc (.cells #[.int .i64 0,.int .i64 0,.int .i64 0,.int .i64 0,.int .i64 0,.int .u64 0,.int .u64 0,.int .i64 0,.int .i64 0,.int .i64 0,.int .i64 0,.slice none 0 0,.slice none 0 0] 62)=W1:=⟨_,rfl⟩
 have HW1:Hid (W1.heap[q]?=some (.cells #[.int .i64 (kd:Int),.int .i64 (ct:Int),.int .i64 (na:Int),.int .i64 fi,.int .i64 la,.int .u64 (le:Int),.int .u64 (gr:Int),.int .i64 ((ti:Int)+(va:Int)+55),.int .i64 (co:Int),.int .i64 (ti:Int),.int .i64 (va:Int)] 60 (0,0))∧W1.heap[q+1]?=some (.cells #[.int .i64 0,.int .i64 0,.int .i64 0,.int .i64 0,.int .i64 0,.int .u64 0,.int .u64 0,.int .i64 0,.int .i64 0,.int .i64 0,.int .i64 0,.slice none 0 0,.slice none 0 0] 62 (0,0))∧Below w.heap.size w W1):=by
  have hA:Below w.heap.size w (w.alloc (.cells #[.int .i64 (kd:Int),.int .i64 (ct:Int),.int .i64 (na:Int),.int .i64 fi,.int .i64 la,.int .u64 (le:Int),.int .u64 (gr:Int),.int .i64 ((ti:Int)+(va:Int)+55),.int .i64 (co:Int),.int .i64 (ti:Int),.int .i64 (va:Int)] 60)):=(Below.refl _ _).alloc (Nat.le_refl _) _
  have hs:(w.alloc (.cells #[.int .i64 (kd:Int),.int .i64 (ct:Int),.int .i64 (na:Int),.int .i64 fi,.int .i64 la,.int .u64 (le:Int),.int .u64 (gr:Int),.int .i64 ((ti:Int)+(va:Int)+55),.int .i64 (co:Int),.int .i64 (ti:Int),.int .i64 (va:Int)] 60)).heap.size=q+1:=by rw [←hq];simp
  have h1:=heap_alloc_new w (.cells #[.int .i64 (kd:Int),.int .i64 (ct:Int),.int .i64 (na:Int),.int .i64 fi,.int .i64 la,.int .u64 (le:Int),.int .u64 (gr:Int),.int .i64 ((ti:Int)+(va:Int)+55),.int .i64 (co:Int),.int .i64 (ti:Int),.int .i64 (va:Int)] 60)
  rw [hq] at h1
  have hB:Below (w.alloc (.cells #[.int .i64 (kd:Int),.int .i64 (ct:Int),.int .i64 (na:Int),.int .i64 fi,.int .i64 la,.int .u64 (le:Int),.int .u64 (gr:Int),.int .i64 ((ti:Int)+(va:Int)+55),.int .i64 (co:Int),.int .i64 (ti:Int),.int .i64 (va:Int)] 60)).heap.size (w.alloc (.cells #[.int .i64 (kd:Int),.int .i64 (ct:Int),.int .i64 (na:Int),.int .i64 fi,.int .i64 la,.int .u64 (le:Int),.int .u64 (gr:Int),.int .i64 ((ti:Int)+(va:Int)+55),.int .i64 (co:Int),.int .i64 (ti:Int),.int .i64 (va:Int)] 60)) W1:=by rw [←hW1];exact (Below.refl _ _).alloc (Nat.le_refl _) _
  refine ⟨?_,?_,hA.trans (hB.mono hA.size)⟩
  ·rw [hB.block q (by omega)];exact h1
  ·rw [←hW1,←hs];exact heap_alloc_new _ _
 have HQ:=qA hq
 obtain ⟨o0,o1,o2,o3,o4,o5,o6,o7,o8,o9,o10⟩:=rowcells11 HW1.out.1
 have n1:(ti:Int)+(va:Int)+55-51=(ti:Int)+(va:Int)+4:=by omega
 go_enter Tryz.func27,Tryz.ntmps27
 go_wp2_with fail
 (try rw [hW1])
 (try rw [hq])
 clear hW1 hq o0 o1 o2 o3 o4 o5 o6 o7 o8 o9 o10
 refine (HUn.out W1 HW1.out.2.2).mono ?_
 rintro e w2 ⟨rfl,md,rfl⟩
 have HW2:Hid ((W1.drewN md).heap[q]?=some (.cells #[.int .i64 (kd:Int),.int .i64 (ct:Int),.int .i64 (na:Int),.int .i64 fi,.int .i64 la,.int .u64 (le:Int),.int .u64 (gr:Int),.int .i64 ((ti:Int)+(va:Int)+55),.int .i64 (co:Int),.int .i64 (ti:Int),.int .i64 (va:Int)] 60 (0,0))∧(W1.drewN md).heap[q+1]?=some (.cells #[.int .i64 0,.int .i64 0,.int .i64 0,.int .i64 0,.int .i64 0,.int .u64 0,.int .u64 0,.int .i64 0,.int .i64 0,.int .i64 0,.int .i64 0,.slice none 0 0,.slice none 0 0] 62 (0,0))∧Below w.heap.size w (W1.drewN md)):=⟨HW1.out.1,HW1.out.2.1,HW1.out.2.2.os,HW1.out.2.2.tape,HW1.out.2.2.output,HW1.out.2.2.size,HW1.out.2.2.block⟩
 clear HUn HW1
 generalize W1.drewN md=W2 at*
 go_upto_region 8 with fail
 obtain ⟨o0,o1,o2,o3,o4,o5,o6,o7,o8,o9,o10⟩:=rowcells11 HW2.out.1
 obtain ⟨z0,z1,z2,z3,z4,z5,z6,z7,z8,z9,z10,z11,z12⟩:=rowcells13 HW2.out.2.1
 have y0:=froz HW2.out.2.1 0
 have y1:=froz HW2.out.2.1 1
 have y2:=froz HW2.out.2.1 2
 have y3:=froz HW2.out.2.1 3
 have y4:=froz HW2.out.2.1 4
 have y5:=froz HW2.out.2.1 5
 have y6:=froz HW2.out.2.1 6
 have y7:=froz HW2.out.2.1 7
 have y8:=froz HW2.out.2.1 8
 have y9:=froz HW2.out.2.1 9
 have y10:=froz HW2.out.2.1 10
 have y11:=froz HW2.out.2.1 11
 have y12:=froz HW2.out.2.1 12
 have k1:¬K=ti:=by omega
 have k2:ti≤ti+va:=by omega
 have k3:(ti:Int)≤(ti:Int)+(va:Int):=by omega
 have k4:ti≤K:=by omega
 have k5:(ti:Int)≤(K:Int):=by omega
 obtain ⟨X,hX⟩:∃X,(((((((((((((W2.setCell ⟨q+1,0,none⟩ (.int .i64 (kd:Int))).setCell ⟨q+1,1,none⟩ (.int .i64 (ct:Int))).setCell ⟨q+1,2,none⟩ (.int .i64 (na:Int))).setCell ⟨q+1,3,none⟩ (.int .i64 fi)).setCell ⟨q+1,4,none⟩ (.int .i64 la)).setCell ⟨q+1,5,none⟩ (.int .u64 (le:Int))).setCell ⟨q+1,6,none⟩ (.int .u64 (gr:Int))).setCell ⟨q+1,7,none⟩ (.int .i64 ((ti:Int)+(va:Int)+55))).setCell ⟨q+1,8,none⟩ (.int .i64 (co:Int))).setCell ⟨q+1,9,none⟩ (.int .i64 (ti:Int))).setCell ⟨q+1,10,none⟩ (.int .i64 (va:Int))).setCell ⟨q+1,11,none⟩ (.slice (some ⟨b,o+51,none⟩) ti K)).setCell ⟨q+1,12,none⟩ (.slice (some ⟨b,o+51+ti,none⟩) va (K-ti)))=X:=⟨_,rfl⟩
 have hx1:X.heap[q+1]?=some (.cells #[.int .i64 (kd:Int),.int .i64 (ct:Int),.int .i64 (na:Int),.int .i64 fi,.int .i64 la,.int .u64 (le:Int),.int .u64 (gr:Int),.int .i64 ((ti:Int)+(va:Int)+55),.int .i64 (co:Int),.int .i64 (ti:Int),.int .i64 (va:Int),.slice (some ⟨b,o+51,none⟩) ti K,.slice (some ⟨b,o+51+ti,none⟩) va (K-ti)] 62 (0,0)):=by rw [←hX];exact fQ _ _ _ _ _ _ _ _ _ _ _ _ _ _ _ _ _ _ _ _ _ _ _ _ _ _ _ _ _ HW2.out.2.1
 have hx2:Below w.heap.size w X:=by rw [←hX];exact nT HW2.out.2.2 _ _ _ _ _ _ _ _ _ _ _ _ _ _ (by have:=HQ.out;omega)
 have HFR:Hid (X.drew.heap[q+1]?=some (.cells #[.int .i64 (kd:Int),.int .i64 (ct:Int),.int .i64 (na:Int),.int .i64 fi,.int .i64 la,.int .u64 (le:Int),.int .u64 (gr:Int),.int .i64 ((ti:Int)+(va:Int)+55),.int .i64 (co:Int),.int .i64 (ti:Int),.int .i64 (va:Int),.slice (some ⟨b,o+51,none⟩) ti K,.slice (some ⟨b,o+51+ti,none⟩) va (K-ti)] 62 (0,0))∧Below w.heap.size w X.drew):=⟨hx1,hx2.drew⟩
 clear hx1 hx2
 clear HW2
 go_region
 go_wp2_with fail
 (try rw [hX])
 clear hX
 obtain ⟨WF,hWF⟩:∃WF,X.drew=WF:=⟨_,rfl⟩
 rw [hWF] at HFR⊢
 clear hWF
 obtain ⟨u0,u1,u2,u3,u4,u5,u6,u7,u8,u9,u10,u11,u12⟩:=rowcells13 HFR.out.1
 exact bodyPost_ret (v:= .tuple #[.agg (ptA kd ct na fi la le gr ((ti:Int)+(va:Int)+55) co ti va (.slice (some ⟨b,o+51,none⟩) ti K) (.slice (some ⟨b,o+51+ti,none⟩) va (K-ti))),.int .i64 0]) (by simp [results,Tryz.results27,go_sem,ptA,u0,u1,u2,u3,u4,u5,u6,u7,u8,u9,u10,u11,u12]) rfl ⟨rfl,HFR.out.2⟩
end Go.Proofs.YtkpmalfigmimaaaGreatDoor
namespace Go.Proofs.YtkpmalfigmimaaaGreatDoor
open Go.RowKit
open M
def qJ2 (n:Nat) (v:Nat→Nat) (w:World) (e:Ending) (w':World):Prop:=∃(p:Option Addr) (c:Nat),e= .returned (.tuple #[.slice p n c,.int .i64 0])∧n≤c∧qZ w' p n v∧Below w.heap.size w w'
theorem pP (kd co m na le gr ti va:Nat) (fi la by_:Int) (v:Nat→Nat) (vs:Value) (vb:List Nat) (w:World) (hv:jW w vs vb) (hb:∀n∈vb,n<256) (hl:vb.length≤1000000000000) (hn:m+1≤4096) (hval:yE kd (m+1) v co vb) (hnar:kd=2→tC v (m+1)) (hf:∀i,i<m+1→v i<18446744073709551616) (hT:qT w):
  Calls Tryz.prog 50 #[.agg #[.int .i64 (kd:Int),.int .i64 ((m:Int)+1),.int .i64 (na:Int),.int .i64 fi,.int .i64 la,.int .u64 (le:Int),.int .u64 (gr:Int),.int .i64 by_,.int .i64 (co:Int),.int .i64 (ti:Int),.int .i64 (va:Int)],vs] w (qJ2 (m+1) v w):=by
 obtain ⟨q,hq⟩:∃q,w.heap.size=q:=⟨_,rfl⟩
 obtain ⟨W1,hW1⟩:∃W1,w.alloc (.cells #[.int .i64 (kd:Int),.int .i64 ((m:Int)+1),.int .i64 (na:Int),.int .i64 fi,.int .i64 la,.int .u64 (le:Int),.int .u64 (gr:Int),.int .i64 by_,.int .i64 (co:Int),.int .i64 (ti:Int),.int .i64 (va:Int)] 60)=W1:=⟨_,rfl⟩
 have HW:Hid (W1.heap[q]?=some (.cells #[.int .i64 (kd:Int),.int .i64 ((m:Int)+1),.int .i64 (na:Int),.int .i64 fi,.int .i64 la,.int .u64 (le:Int),.int .u64 (gr:Int),.int .i64 by_,.int .i64 (co:Int),.int .i64 (ti:Int),.int .i64 (va:Int)] 60 (0,0))∧Below w.heap.size w W1):=by rw [←hW1,←hq];exact ⟨heap_alloc_new _ _,(Below.refl _ _).alloc (Nat.le_refl _) _⟩
 have o0:W1.cell? ⟨q,0,none⟩=some (.int .i64 (kd:Int)):=by rw [cell_of_row _ _ _ _ _ _ HW.out.1];rfl
 have o1:W1.cell? ⟨q,1,none⟩=some (.int .i64 ((m:Int)+1)):=by rw [cell_of_row _ _ _ _ _ _ HW.out.1];rfl
 have o8:W1.cell? ⟨q,8,none⟩=some (.int .i64 (co:Int)):=by rw [cell_of_row _ _ _ _ _ _ HW.out.1];rfl
 by_cases hk:kd=2
 ·have hB:tF (m+1) (fun i=>yI (v i)) 6 co vb:=by unfold yE at hval;rw [if_pos (by rw [hk];rfl)] at hval;exact hval
  have HU:=qA (rN co vs vb (m+1) W1 hB.lo hB.hi (qD hv HW.out.2) hb hl hn (hT.below HW.out.2))
  rw [show (((m+1:Nat)):Int)=(m:Int)+1 from by simp] at HU
  have HIS:=qA hB.is
  have HM:=qA (fun (p:Option Addr) (c:Nat) (w1:World) (hR:jC w1 p (m+1) (fun i=>yI (v i)))=>qBE p (m+1) c (fun i=>yI (v i)) w1 hR hn (fun i hi=>wD _ (hf i hi)))
  have HN:=qA (hnar hk)
  have e2:((kd:Int)==2)=true:=by rw [beq_iff_eq];omega
  clear hk
  clear hv hb hl hval hnar hf hT hB
  go_enter Tryz.func50,Tryz.ntmps50
  go_wp2_with fail
  (try rw [hW1])
  (try rw [hq])
  clear hW1 hq o0 o1 o8
  refine HU.out.mono ?_
  intro e w2 hE
  rcases hE with ⟨rfl,B2,hno⟩|⟨u,f,rfl,hU,hP,hfx⟩
  ·exact absurd HIS.out (hno _)
  obtain ⟨p2,c2,rfl,hc2,R2⟩:=hU.row
  have HR2:=qA (R2.congr (hfx _ HIS.out))
  have HB2:Hid (Below w.heap.size w w2):=HW.out.2.trans (hU.2.1.mono HW.out.2.size)
  clear hU hP hfx R2 HU HW HIS
  go_wp2_with fail
  refine (HM.out p2 c2 w2 HR2.out).mono ?_
  rintro e w3 ⟨g3,rfl,hg3,hM,B3⟩
  have HF:Hid (qJ2 (m+1) v w (.returned (.tuple #[.slice (some ⟨g3,0,none⟩) (m+1) (m+1),.int .i64 0])) w3):=⟨_,_,rfl,Nat.le_refl _,hM.row64.congr HN.out,HB2.out.trans (B3.mono HB2.out.size)⟩
  clear hg3 hM B3 HM
  go_wp2_with fail
  go_ret2
  exact HF.out
 ·have hB:tG (m+1) v 6 co vb:=by unfold yE at hval;rw [if_neg (by omega)] at hval;exact hval
  have HU:=qA (rO co vs vb (m+1) W1 hB.lo hB.hi (qD hv HW.out.2) hb hl hn (hT.below HW.out.2))
  rw [show (((m+1:Nat)):Int)=(m:Int)+1 from by simp] at HU
  have HIS:=qA hB.is
  have e2:((kd:Int)==2)=false:=by rw [beq_eq_false_iff_ne];omega
  clear hv hb hl hval hnar hf hT hB hk
  go_enter Tryz.func50,Tryz.ntmps50
  go_wp2_with fail
  (try rw [hW1])
  (try rw [hq])
  clear hW1 hq o0 o1 o8
  refine HU.out.mono ?_
  intro e w2 hE
  rcases hE with ⟨rfl,B2,hno⟩|⟨u,f,rfl,hU,hP,hfx⟩
  ·exact absurd HIS.out (hno _)
  obtain ⟨p2,c2,rfl,hc2,R2⟩:=hU.row
  have HF:Hid (qJ2 (m+1) v w (.returned (.tuple #[.slice p2 (m+1) c2,.int .i64 0])) w2):=⟨_,_,rfl,hc2,R2.congr (hfx _ HIS.out),HW.out.2.trans (hU.2.1.mono HW.out.2.size)⟩
  clear hU hP hfx R2 HU HW HIS
  go_wp2_with fail
  go_ret2
  exact HF.out
end Go.Proofs.YtkpmalfigmimaaaGreatDoor
