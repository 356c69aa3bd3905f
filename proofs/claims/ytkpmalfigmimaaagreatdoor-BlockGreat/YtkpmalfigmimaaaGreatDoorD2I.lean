import Derived.Test.YtkpmalfigmimaaaGreatDoorD1E
import Derived.Test.YtkpmalfigmimaaaGreatDoorD1D
set_option linter.unusedVariables false
set_option linter.unusedSimpArgs false
set_option maxRecDepth 100000
set_option maxHeartbeats 8000000
namespace Go.Proofs.YtkpmalfigmimaaaGreatDoor
open Go.RowKit
open M
theorem tD (k:Nat) (w:World) (h1:1≤k) (h6:k≤6):Calls Tryz.prog 77 #[.int .i64 (k:Int)] w fun e w'=>e= .returned (.bool true)∧w'=w:=by
 go_enter Tryz.func77,Tryz.ntmps77
 go_wp2_with fail
 go_ret
 exact ⟨by simp<;>omega,rfl⟩
theorem sA (kd ct na le gr co ti va:Nat) (fi la by_:Int) (w:World) (h:if ct=1 then la=fi else fi<la):
  Calls Tryz.prog 78 #[.agg #[.int .i64 (kd:Int),.int .i64 (ct:Int),.int .i64 (na:Int),.int .i64 fi,.int .i64 la,.int .u64 (le:Int),.int .u64 (gr:Int),.int .i64 by_,.int .i64 (co:Int),.int .i64 (ti:Int),.int .i64 (va:Int)]] w fun e w'=>e= .returned (.bool true)∧Below w.heap.size w w':=by
 have HB:Hid (Below w.heap.size w (w.alloc (.cells #[.int .i64 (kd:Int),.int .i64 (ct:Int),.int .i64 (na:Int),.int .i64 fi,.int .i64 la,.int .u64 (le:Int),.int .u64 (gr:Int),.int .i64 by_,.int .i64 (co:Int),.int .i64 (ti:Int),.int .i64 (va:Int)] 60))):=(Below.refl _ _).alloc (Nat.le_refl _) _
 by_cases h1:ct=1
 ·rw [if_pos h1] at h
  subst h1
  subst h
  go_enter Tryz.func78,Tryz.ntmps78
  go_wp2_with fail
  go_ret
  exact ⟨by simp,HB.out⟩
 ·rw [if_neg h1] at h
  have e1:((ct:Int)==1)=false:=by rw [beq_eq_false_iff_ne];omega
  go_enter Tryz.func78,Tryz.ntmps78
  go_wp2_with fail
  go_ret
  exact ⟨by simp<;>omega,HB.out⟩
structure qL2 (kd ct na co:Nat) (fi la:Int):Prop where
 kd:kd=1∨kd=2
 co1:1≤co
 co6:co≤6
 ct1:1≤ct
 ct4:ct≤4096
 na:na≤ct
 span:if ct=1 then la=fi else fi<la
theorem qEG (kd ct na le gr co ti va:Nat) (fi la by_:Int) (w:World) (h:qL2 kd ct na co fi la):
  Calls Tryz.prog 48 #[.agg #[.int .i64 (kd:Int),.int .i64 (ct:Int),.int .i64 (na:Int),.int .i64 fi,.int .i64 la,.int .u64 (le:Int),.int .u64 (gr:Int),.int .i64 by_,.int .i64 (co:Int),.int .i64 (ti:Int),.int .i64 (va:Int)]] w fun e w'=>e= .returned (.bool true)∧Below w.heap.size w w':=by
 have HK:Hid (∀w,Calls Tryz.prog 59 #[.int .i64 (kd:Int)] w fun e w'=>e= .returned (.bool true)∧w'=w):=fun w=>by
  have:=cZ (kd:Int) w
  rw [decide_eq_true (by rcases h.kd with h|h<;>omega)] at this;exact this
 have HC:Hid (∀w,Calls Tryz.prog 60 #[.int .i64 (ct:Int)] w fun e w'=>e= .returned (.bool true)∧w'=w):=fun w=>by
  have:=bL ct w (by have:=h.ct4;omega)
  rw [decide_eq_true ⟨h.ct1,h.ct4⟩] at this;exact this
 have HD:=qA (fun w:World=>tD co w h.co1 h.co6)
 have HS:=qA (fun w:World=>sA kd ct na le gr co ti va fi la by_ w h.span)
 have hna:(na:Int)≤(ct:Int):=by have:=h.na;omega
 clear h
 obtain ⟨g,hg⟩:∃g,w.heap.size=g:=⟨_,rfl⟩
 obtain ⟨W1,hW1⟩:∃W1,w.alloc (.cells #[.int .i64 (kd:Int),.int .i64 (ct:Int),.int .i64 (na:Int),.int .i64 fi,.int .i64 la,.int .u64 (le:Int),.int .u64 (gr:Int),.int .i64 by_,.int .i64 (co:Int),.int .i64 (ti:Int),.int .i64 (va:Int)] 60)=W1:=⟨_,rfl⟩
 have HW:Hid (W1.heap[g]?=some (.cells #[.int .i64 (kd:Int),.int .i64 (ct:Int),.int .i64 (na:Int),.int .i64 fi,.int .i64 la,.int .u64 (le:Int),.int .u64 (gr:Int),.int .i64 by_,.int .i64 (co:Int),.int .i64 (ti:Int),.int .i64 (va:Int)] 60 (0,0))∧Below g w W1):=by rw [←hW1,←hg];exact ⟨heap_alloc_new _ _,(Below.refl _ _).alloc (Nat.le_refl _) _⟩
 have HG:=qA hg
 have o0:W1.cell? ⟨g,0,none⟩=some (.int .i64 (kd:Int)):=by rw [cell_of_row _ _ _ _ _ _ HW.out.1];rfl
 have o1:W1.cell? ⟨g,1,none⟩=some (.int .i64 (ct:Int)):=by rw [cell_of_row _ _ _ _ _ _ HW.out.1];rfl
 have o2:W1.cell? ⟨g,2,none⟩=some (.int .i64 (na:Int)):=by rw [cell_of_row _ _ _ _ _ _ HW.out.1];rfl
 have o3:W1.cell? ⟨g,3,none⟩=some (.int .i64 fi):=by rw [cell_of_row _ _ _ _ _ _ HW.out.1];rfl
 have o4:W1.cell? ⟨g,4,none⟩=some (.int .i64 la):=by rw [cell_of_row _ _ _ _ _ _ HW.out.1];rfl
 have o5:W1.cell? ⟨g,5,none⟩=some (.int .u64 (le:Int)):=by rw [cell_of_row _ _ _ _ _ _ HW.out.1];rfl
 have o6:W1.cell? ⟨g,6,none⟩=some (.int .u64 (gr:Int)):=by rw [cell_of_row _ _ _ _ _ _ HW.out.1];rfl
 have o7:W1.cell? ⟨g,7,none⟩=some (.int .i64 by_):=by rw [cell_of_row _ _ _ _ _ _ HW.out.1];rfl
 have o8:W1.cell? ⟨g,8,none⟩=some (.int .i64 (co:Int)):=by rw [cell_of_row _ _ _ _ _ _ HW.out.1];rfl
 have o9:W1.cell? ⟨g,9,none⟩=some (.int .i64 (ti:Int)):=by rw [cell_of_row _ _ _ _ _ _ HW.out.1];rfl
 have o10:W1.cell? ⟨g,10,none⟩=some (.int .i64 (va:Int)):=by rw [cell_of_row _ _ _ _ _ _ HW.out.1];rfl
 go_enter Tryz.func48,Tryz.ntmps48
 go_wp2_with fail
 (try rw [hW1])
 (try rw [hg])
 clear hW1 hg
 refine (HK.out _).mono ?_
 rintro e w2 ⟨rfl,hw⟩
 obtain rfl:=hw
 go_wp2_with fail
 refine (HD.out _).mono ?_
 rintro e w3 ⟨rfl,hw⟩
 obtain rfl:=hw
 go_wp2_with fail
 refine (HC.out _).mono ?_
 rintro e w4 ⟨rfl,hw⟩
 obtain rfl:=hw
 go_wp2_with fail
 refine (HS.out _).mono ?_
 rintro e w5 ⟨rfl,B5⟩
 have HF:Hid (Below w.heap.size w w5):=by rw [HG.out];exact HW.out.2.trans (B5.mono (Nat.le_of_lt (qB HW.out.1)))
 clear B5 HW o0 o1 o2 o3 o4 o5 o6 o7 o8 o9 o10
 go_wp2_with fail
 go_ret
 exact ⟨rfl,HF.out⟩
theorem qGG (x:Nat) (h:x<4294967296):x/16777216%256*16777216+x/65536%256*65536+x/256%256*256+x%256=x:=by omega
def qU (w:World) (b o:Nat) (bs:List Nat):Prop:=∀i,i<bs.length→w.cell? ⟨b,o+i,none⟩=some (.int .u8 ((bs.getD i 0:Nat):Int))
theorem qU.left {w:World} {b o:Nat} {xs ys:List Nat} (h:qU w b o (xs++ys)):qU w b o xs:=fun i hi=>by
 have:=h i (by rw [List.length_append];omega)
 rw [this,List.getD_eq_getElem?_getD,List.getD_eq_getElem?_getD,List.getElem?_append_left hi]
theorem qU.right {w:World} {b o:Nat} {xs ys:List Nat} (h:qU w b o (xs++ys)):qU w b (o+xs.length) ys:=fun i hi=>by
 have:=h (xs.length+i) (by rw [List.length_append];omega)
 rw [Nat.add_assoc,this,List.getD_eq_getElem?_getD,List.getD_eq_getElem?_getD,List.getElem?_append_right (by omega),Nat.add_sub_cancel_left]
theorem qU.below {w w':World} {b o:Nat} {bs:List Nat} (h:qU w b o bs) (hB:Below w.heap.size w w'):qU w' b o bs:=fun i hi=>by
 rw [hB.cell (p:=⟨b,o+i,none⟩) (block_lt_of_cell (h i hi))];exact h i hi
theorem qU.by_ {w:World} {b o:Nat} {bs:List Nat} (h:qU w b o bs) (cap:Nat):jY w (.slice (some ⟨b,o,none⟩) bs.length cap) bs:= .inl (.inr ⟨b,o,cap,rfl,h⟩)
theorem wK (b o cap:Nat) (bs:List Nat) (w:World) (h:qU w b o (qM bs)) (hb:∀n∈bs,n<256) (hl:bs.length≤1000000000) (hcap:bs.length+4≤cap) (hT:nO w):
  Calls Tryz.prog 46 #[.slice (some ⟨b,o,none⟩) (bs.length+4) cap] w fun e w'=>e= .returned (.tuple #[.slice (some ⟨b,o,none⟩) bs.length cap,.bool true])∧∃m,w'=w.drewN m:=by
 have hL:qU w b o bs:=qU.left h
 have hR:qU w b (o+bs.length) (qA0 (qAJ bs)):=qU.right h
 have r0:=hR 0 (by simp [qA0])
 have r1:=hR 1 (by simp [qA0])
 have r2:=hR 2 (by simp [qA0])
 have r3:=hR 3 (by simp [qA0])
 have hu:=lG b o bs.length cap bs (qAJ bs/16777216%256) (qAJ bs/65536%256) (qAJ bs/256%256) (qAJ bs%256) w rfl hL hb hl hcap (Nat.mod_lt _ (by omega)) (Nat.mod_lt _ (by omega)) (Nat.mod_lt _ (by omega)) (Nat.mod_lt _ (by omega)) (by simpa [qA0] using r0) (by simpa [qA0,Nat.add_assoc] using r1) (by simpa [qA0,Nat.add_assoc] using r2) (by simpa [qA0,Nat.add_assoc] using r3) hT
 rw [qGG _ (qFZ bs hb),decide_eq_true rfl] at hu
 exact hu
def qEE (A:Array Value) (c:Int) (w:World) (e:Ending) (w':World):Prop:=e= .returned (.tuple #[.agg A,.int .i64 c])∧Below w.heap.size w w'
theorem qAX (kd co ct na F L le gr ti va:Nat) (fi la:Int) (b o n cap:Nat) (w:World) (hc:qU w b o (qM (packed (hdB kd co ct na F L le gr ti va)))) (hn:51≤n) (hcap:n≤cap) (hn2:n≤1000000000000) (hok:qL2 kd ct na co fi la) (hF:F<18446744073709551616) (hL:L<18446744073709551616) (h6:le<18446744073709551616) (h7:gr<18446744073709551616) (h8:ti<4294967296) (h9:va<4294967296) (h4:IntKind.i64.wrap (F:Int)=fi) (h5:IntKind.i64.wrap (L:Int)=la) (hT:nO w):
  Calls Tryz.prog 26 #[.slice (some ⟨b,o,none⟩) n cap] w (qEE (hdA kd ct na fi la le gr ((ti:Int)+(va:Int)+55) co ti va) 0 w):=by
 obtain ⟨hb,hhb⟩:∃hb,packed (hdB kd co ct na F L le gr ti va)=hb:=⟨_,rfl⟩
 have hl47:hb.length=47:=by rw [←hhb,packed_length,xH]
 have h256:∀n∈hb,n<256:=by rw [←hhb];exact zV _
 have hmark:hb.getD 0 0=181:=by
  rw [←hhb,packed_getD _ 0 (by rw [xH];omega)]
  unfold hdB
  simp only [List.append_assoc]
  rw [byteAt_full _ _ 0 (by simp)]
  decide
 have HOf:=qA (fun (w1:World) (hv:jY w1 (.slice (some ⟨b,o,none⟩) 47 cap) hb)=>qDL kd co ct na F L le gr ti va fi la (.slice (some ⟨b,o,none⟩) 47 cap) w1 (by rw [hhb];exact hv) (by rcases hok.kd with h|h<;>omega) (by have:=hok.co6;omega) (by have:=hok.ct4;omega) (by have:=hok.na;have:=hok.ct4;omega) hF hL h6 h7 h8 h9 h4 h5)
 rw [hhb] at hc
 have HMB:=qA (fun w:World=>qEG kd ct na le gr co ti va fi la ((ti:Int)+(va:Int)+55) w hok)
 have HUn:=qA (fun (w1:World) (hB:Below w.heap.size w w1)=>wK b o cap hb w1 (hc.below hB) h256 (by omega) (by omega) (hT.below hB))
 rw [hl47] at HUn
 have HBy:Hid (∀w1,Below w.heap.size w w1→jY w1 (.slice (some ⟨b,o,none⟩) 47 cap) hb):=fun w1 hB=>by
  have:=((qU.left hc).below hB).by_ cap
  rw [hl47] at this;exact this
 have HC0:Hid (w.cell? ⟨b,o,none⟩=some (.int .u8 181)):=by
  have:=(qU.left hc) 0 (by omega)
  rw [hmark] at this
  show _=_
  simpa using this
 obtain ⟨g0,hg0⟩:∃g,w.heap.size=g:=⟨_,rfl⟩
 obtain ⟨W1,hW1⟩:∃W1,w.alloc (.cells #[.int .i64 0,.int .i64 0,.int .i64 0,.int .i64 0,.int .i64 0,.int .u64 0,.int .u64 0,.int .i64 0,.int .i64 0,.int .i64 0,.int .i64 0] 60)=W1:=⟨_,rfl⟩
 have HW1:Hid (W1.heap[g0]?=some (.cells #[.int .i64 0,.int .i64 0,.int .i64 0,.int .i64 0,.int .i64 0,.int .u64 0,.int .u64 0,.int .i64 0,.int .i64 0,.int .i64 0,.int .i64 0] 60 (0,0))∧Below w.heap.size w W1∧g0<W1.heap.size):=by rw [←hW1,←hg0];exact ⟨heap_alloc_new _ _,(Below.refl _ _).alloc (Nat.le_refl _) _,by simp⟩
 have c0:W1.cell? ⟨b,o,none⟩=some (.int .u8 181):=by rw [HW1.out.2.1.cell (p:=⟨b,o,none⟩) (block_lt_of_cell HC0.out)];exact HC0.out
 have HG:=qA hg0
 clear hc hok hF hL h6 h7 h8 h9 h4 h5 hT hhb hl47 h256 hmark HC0
 go_enter Tryz.func26,Tryz.ntmps26
 go_wp2_with fail
 (try rw [hW1])
 (try rw [hg0])
 clear hW1 hg0
 refine (HUn.out W1 HW1.out.2.1).mono ?_
 rintro e w2 ⟨rfl,md,rfl⟩
 have HB2:Hid (Below w.heap.size w (W1.drewN md)):=⟨HW1.out.2.1.os,HW1.out.2.1.tape,HW1.out.2.1.output,HW1.out.2.1.size,HW1.out.2.1.block⟩
 have HR2:Hid ((W1.drewN md).heap[g0]?=some (.cells #[.int .i64 0,.int .i64 0,.int .i64 0,.int .i64 0,.int .i64 0,.int .u64 0,.int .u64 0,.int .i64 0,.int .i64 0,.int .i64 0,.int .i64 0] 60 (0,0))∧g0<(W1.drewN md).heap.size):=⟨HW1.out.1,HW1.out.2.2⟩
 clear HUn HW1 c0
 generalize W1.drewN md=W2 at*
 go_wp2_with fail
 refine (HOf.out W2 (HBy.out W2 HB2.out)).mono ?_
 rintro e w3 ⟨rfl,B3⟩
 have HB3:Hid (Below w.heap.size w w3):=HB2.out.trans (B3.mono HB2.out.size)
 have HR3:Hid (w3.heap[g0]?=some (.cells #[.int .i64 0,.int .i64 0,.int .i64 0,.int .i64 0,.int .i64 0,.int .u64 0,.int .u64 0,.int .i64 0,.int .i64 0,.int .i64 0,.int .i64 0] 60 (0,0))∧g0<w3.heap.size):=⟨by rw [B3.block g0 HR2.out.2];exact HR2.out.1,Nat.lt_of_lt_of_le HR2.out.2 B3.size⟩
 clear B3 HOf HB2 HR2 HBy
 unfold hdA
 obtain ⟨h,hh⟩:∃h,w3.heap.size=h:=⟨_,rfl⟩
 obtain ⟨W4,hW4⟩:∃W4,w3.alloc (.cells #[.int .i64 (kd:Int),.int .i64 (ct:Int),.int .i64 (na:Int),.int .i64 fi,.int .i64 la,.int .u64 (le:Int),.int .u64 (gr:Int),.int .i64 ((ti:Int)+(va:Int)+55),.int .i64 (co:Int),.int .i64 (ti:Int),.int .i64 (va:Int)] 60)=W4:=⟨_,rfl⟩
 have HW4:Hid (W4.heap[h]?=some (.cells #[.int .i64 (kd:Int),.int .i64 (ct:Int),.int .i64 (na:Int),.int .i64 fi,.int .i64 la,.int .u64 (le:Int),.int .u64 (gr:Int),.int .i64 ((ti:Int)+(va:Int)+55),.int .i64 (co:Int),.int .i64 (ti:Int),.int .i64 (va:Int)] 60 (0,0))∧Below w3.heap.size w3 W4):=by rw [←hW4,←hh];exact ⟨heap_alloc_new _ _,(Below.refl _ _).alloc (Nat.le_refl _) _⟩
 have o0:W4.cell? ⟨h,0,none⟩=some (.int .i64 (kd:Int)):=by rw [cell_of_row _ _ _ _ _ _ HW4.out.1];rfl
 have o1:W4.cell? ⟨h,1,none⟩=some (.int .i64 (ct:Int)):=by rw [cell_of_row _ _ _ _ _ _ HW4.out.1];rfl
 have o2:W4.cell? ⟨h,2,none⟩=some (.int .i64 (na:Int)):=by rw [cell_of_row _ _ _ _ _ _ HW4.out.1];rfl
 have o3:W4.cell? ⟨h,3,none⟩=some (.int .i64 fi):=by rw [cell_of_row _ _ _ _ _ _ HW4.out.1];rfl
 have o4:W4.cell? ⟨h,4,none⟩=some (.int .i64 la):=by rw [cell_of_row _ _ _ _ _ _ HW4.out.1];rfl
 have o5:W4.cell? ⟨h,5,none⟩=some (.int .u64 (le:Int)):=by rw [cell_of_row _ _ _ _ _ _ HW4.out.1];rfl
 have o6:W4.cell? ⟨h,6,none⟩=some (.int .u64 (gr:Int)):=by rw [cell_of_row _ _ _ _ _ _ HW4.out.1];rfl
 have o7:W4.cell? ⟨h,7,none⟩=some (.int .i64 ((ti:Int)+(va:Int)+55)):=by rw [cell_of_row _ _ _ _ _ _ HW4.out.1];rfl
 have o8:W4.cell? ⟨h,8,none⟩=some (.int .i64 (co:Int)):=by rw [cell_of_row _ _ _ _ _ _ HW4.out.1];rfl
 have o9:W4.cell? ⟨h,9,none⟩=some (.int .i64 (ti:Int)):=by rw [cell_of_row _ _ _ _ _ _ HW4.out.1];rfl
 have o10:W4.cell? ⟨h,10,none⟩=some (.int .i64 (va:Int)):=by rw [cell_of_row _ _ _ _ _ _ HW4.out.1];rfl
 go_wp2_with fail
 (try rw [hW4])
 (try rw [hh])
 clear hW4 hh
 refine (HMB.out W4).mono ?_
 rintro e w5 ⟨rfl,B5⟩
 have HW5:Hid (w5.heap[h]?=some (.cells #[.int .i64 (kd:Int),.int .i64 (ct:Int),.int .i64 (na:Int),.int .i64 fi,.int .i64 la,.int .u64 (le:Int),.int .u64 (gr:Int),.int .i64 ((ti:Int)+(va:Int)+55),.int .i64 (co:Int),.int .i64 (ti:Int),.int .i64 (va:Int)] 60 (0,0))∧w5.heap[g0]?=some (.cells #[.int .i64 0,.int .i64 0,.int .i64 0,.int .i64 0,.int .i64 0,.int .u64 0,.int .u64 0,.int .i64 0,.int .i64 0,.int .i64 0,.int .i64 0] 60 (0,0))∧Below w.heap.size w w5):=by
  have B35:Below w3.heap.size w3 w5:=HW4.out.2.trans (B5.mono HW4.out.2.size)
  exact ⟨by rw [B5.block h (qB HW4.out.1)];exact HW4.out.1,by rw [B35.block g0 HR3.out.2];exact HR3.out.1,HB3.out.trans (B35.mono HB3.out.size)⟩
 clear B5 HW4 HR3 HB3 HMB o0 o1 o2 o3 o4 o5 o6 o7 o8 o9 o10
 have o0:w5.cell? ⟨h,0,none⟩=some (.int .i64 (kd:Int)):=by rw [cell_of_row _ _ _ _ _ _ HW5.out.1];rfl
 have o1:w5.cell? ⟨h,1,none⟩=some (.int .i64 (ct:Int)):=by rw [cell_of_row _ _ _ _ _ _ HW5.out.1];rfl
 have o2:w5.cell? ⟨h,2,none⟩=some (.int .i64 (na:Int)):=by rw [cell_of_row _ _ _ _ _ _ HW5.out.1];rfl
 have o3:w5.cell? ⟨h,3,none⟩=some (.int .i64 fi):=by rw [cell_of_row _ _ _ _ _ _ HW5.out.1];rfl
 have o4:w5.cell? ⟨h,4,none⟩=some (.int .i64 la):=by rw [cell_of_row _ _ _ _ _ _ HW5.out.1];rfl
 have o5:w5.cell? ⟨h,5,none⟩=some (.int .u64 (le:Int)):=by rw [cell_of_row _ _ _ _ _ _ HW5.out.1];rfl
 have o6:w5.cell? ⟨h,6,none⟩=some (.int .u64 (gr:Int)):=by rw [cell_of_row _ _ _ _ _ _ HW5.out.1];rfl
 have o7:w5.cell? ⟨h,7,none⟩=some (.int .i64 ((ti:Int)+(va:Int)+55)):=by rw [cell_of_row _ _ _ _ _ _ HW5.out.1];rfl
 have o8:w5.cell? ⟨h,8,none⟩=some (.int .i64 (co:Int)):=by rw [cell_of_row _ _ _ _ _ _ HW5.out.1];rfl
 have o9:w5.cell? ⟨h,9,none⟩=some (.int .i64 (ti:Int)):=by rw [cell_of_row _ _ _ _ _ _ HW5.out.1];rfl
 have o10:w5.cell? ⟨h,10,none⟩=some (.int .i64 (va:Int)):=by rw [cell_of_row _ _ _ _ _ _ HW5.out.1];rfl
 have z0:w5.cell? ⟨g0,0,none⟩=some (.int .i64 0):=by rw [cell_of_row _ _ _ _ _ _ HW5.out.2.1];rfl
 have y0:w5.frozen? ⟨g0,0,none⟩=false:=frozen_of_row _ _ _ _ _ HW5.out.2.1
 have z1:w5.cell? ⟨g0,1,none⟩=some (.int .i64 0):=by rw [cell_of_row _ _ _ _ _ _ HW5.out.2.1];rfl
 have y1:w5.frozen? ⟨g0,1,none⟩=false:=frozen_of_row _ _ _ _ _ HW5.out.2.1
 have z2:w5.cell? ⟨g0,2,none⟩=some (.int .i64 0):=by rw [cell_of_row _ _ _ _ _ _ HW5.out.2.1];rfl
 have y2:w5.frozen? ⟨g0,2,none⟩=false:=frozen_of_row _ _ _ _ _ HW5.out.2.1
 have z3:w5.cell? ⟨g0,3,none⟩=some (.int .i64 0):=by rw [cell_of_row _ _ _ _ _ _ HW5.out.2.1];rfl
 have y3:w5.frozen? ⟨g0,3,none⟩=false:=frozen_of_row _ _ _ _ _ HW5.out.2.1
 have z4:w5.cell? ⟨g0,4,none⟩=some (.int .i64 0):=by rw [cell_of_row _ _ _ _ _ _ HW5.out.2.1];rfl
 have y4:w5.frozen? ⟨g0,4,none⟩=false:=frozen_of_row _ _ _ _ _ HW5.out.2.1
 have z5:w5.cell? ⟨g0,5,none⟩=some (.int .u64 0):=by rw [cell_of_row _ _ _ _ _ _ HW5.out.2.1];rfl
 have y5:w5.frozen? ⟨g0,5,none⟩=false:=frozen_of_row _ _ _ _ _ HW5.out.2.1
 have z6:w5.cell? ⟨g0,6,none⟩=some (.int .u64 0):=by rw [cell_of_row _ _ _ _ _ _ HW5.out.2.1];rfl
 have y6:w5.frozen? ⟨g0,6,none⟩=false:=frozen_of_row _ _ _ _ _ HW5.out.2.1
 have z7:w5.cell? ⟨g0,7,none⟩=some (.int .i64 0):=by rw [cell_of_row _ _ _ _ _ _ HW5.out.2.1];rfl
 have y7:w5.frozen? ⟨g0,7,none⟩=false:=frozen_of_row _ _ _ _ _ HW5.out.2.1
 have z8:w5.cell? ⟨g0,8,none⟩=some (.int .i64 0):=by rw [cell_of_row _ _ _ _ _ _ HW5.out.2.1];rfl
 have y8:w5.frozen? ⟨g0,8,none⟩=false:=frozen_of_row _ _ _ _ _ HW5.out.2.1
 have z9:w5.cell? ⟨g0,9,none⟩=some (.int .i64 0):=by rw [cell_of_row _ _ _ _ _ _ HW5.out.2.1];rfl
 have y9:w5.frozen? ⟨g0,9,none⟩=false:=frozen_of_row _ _ _ _ _ HW5.out.2.1
 have z10:w5.cell? ⟨g0,10,none⟩=some (.int .i64 0):=by rw [cell_of_row _ _ _ _ _ _ HW5.out.2.1];rfl
 have y10:w5.frozen? ⟨g0,10,none⟩=false:=frozen_of_row _ _ _ _ _ HW5.out.2.1
 have HFR:Hid ((((((((((((w5.setCell ⟨g0,0,none⟩ (.int .i64 (kd:Int))).setCell ⟨g0,1,none⟩ (.int .i64 (ct:Int))).setCell ⟨g0,2,none⟩ (.int .i64 (na:Int))).setCell ⟨g0,3,none⟩ (.int .i64 fi)).setCell ⟨g0,4,none⟩ (.int .i64 la)).setCell ⟨g0,5,none⟩ (.int .u64 (le:Int))).setCell ⟨g0,6,none⟩ (.int .u64 (gr:Int))).setCell ⟨g0,7,none⟩ (.int .i64 ((ti:Int)+(va:Int)+55))).setCell ⟨g0,8,none⟩ (.int .i64 (co:Int))).setCell ⟨g0,9,none⟩ (.int .i64 (ti:Int))).setCell ⟨g0,10,none⟩ (.int .i64 (va:Int))).heap[g0]?=some (.cells #[.int .i64 (kd:Int),.int .i64 (ct:Int),.int .i64 (na:Int),.int .i64 fi,.int .i64 la,.int .u64 (le:Int),.int .u64 (gr:Int),.int .i64 ((ti:Int)+(va:Int)+55),.int .i64 (co:Int),.int .i64 (ti:Int),.int .i64 (va:Int)] 60 (0,0))∧Below w.heap.size w (((((((((((w5.setCell ⟨g0,0,none⟩ (.int .i64 (kd:Int))).setCell ⟨g0,1,none⟩ (.int .i64 (ct:Int))).setCell ⟨g0,2,none⟩ (.int .i64 (na:Int))).setCell ⟨g0,3,none⟩ (.int .i64 fi)).setCell ⟨g0,4,none⟩ (.int .i64 la)).setCell ⟨g0,5,none⟩ (.int .u64 (le:Int))).setCell ⟨g0,6,none⟩ (.int .u64 (gr:Int))).setCell ⟨g0,7,none⟩ (.int .i64 ((ti:Int)+(va:Int)+55))).setCell ⟨g0,8,none⟩ (.int .i64 (co:Int))).setCell ⟨g0,9,none⟩ (.int .i64 (ti:Int))).setCell ⟨g0,10,none⟩ (.int .i64 (va:Int)))):=⟨tW _ _ _ _ _ _ _ _ _ _ _ _ _ _ _ _ _ _ _ _ _ _ _ _ _ HW5.out.2.1,mZ HW5.out.2.2 _ _ _ _ _ _ _ _ _ _ _ _ (Nat.le_of_eq HG.out)⟩
 clear HW5
 go_wp2_with fail
 generalize (((((((((((w5.setCell ⟨g0,0,none⟩ (.int .i64 (kd:Int))).setCell ⟨g0,1,none⟩ (.int .i64 (ct:Int))).setCell ⟨g0,2,none⟩ (.int .i64 (na:Int))).setCell ⟨g0,3,none⟩ (.int .i64 fi)).setCell ⟨g0,4,none⟩ (.int .i64 la)).setCell ⟨g0,5,none⟩ (.int .u64 (le:Int))).setCell ⟨g0,6,none⟩ (.int .u64 (gr:Int))).setCell ⟨g0,7,none⟩ (.int .i64 ((ti:Int)+(va:Int)+55))).setCell ⟨g0,8,none⟩ (.int .i64 (co:Int))).setCell ⟨g0,9,none⟩ (.int .i64 (ti:Int))).setCell ⟨g0,10,none⟩ (.int .i64 (va:Int)))=WF at*
 have u0:WF.cell? ⟨g0,0,none⟩=some (.int .i64 (kd:Int)):=by rw [cell_of_row _ _ _ _ _ _ HFR.out.1];rfl
 have u1:WF.cell? ⟨g0,1,none⟩=some (.int .i64 (ct:Int)):=by rw [cell_of_row _ _ _ _ _ _ HFR.out.1];rfl
 have u2:WF.cell? ⟨g0,2,none⟩=some (.int .i64 (na:Int)):=by rw [cell_of_row _ _ _ _ _ _ HFR.out.1];rfl
 have u3:WF.cell? ⟨g0,3,none⟩=some (.int .i64 fi):=by rw [cell_of_row _ _ _ _ _ _ HFR.out.1];rfl
 have u4:WF.cell? ⟨g0,4,none⟩=some (.int .i64 la):=by rw [cell_of_row _ _ _ _ _ _ HFR.out.1];rfl
 have u5:WF.cell? ⟨g0,5,none⟩=some (.int .u64 (le:Int)):=by rw [cell_of_row _ _ _ _ _ _ HFR.out.1];rfl
 have u6:WF.cell? ⟨g0,6,none⟩=some (.int .u64 (gr:Int)):=by rw [cell_of_row _ _ _ _ _ _ HFR.out.1];rfl
 have u7:WF.cell? ⟨g0,7,none⟩=some (.int .i64 ((ti:Int)+(va:Int)+55)):=by rw [cell_of_row _ _ _ _ _ _ HFR.out.1];rfl
 have u8:WF.cell? ⟨g0,8,none⟩=some (.int .i64 (co:Int)):=by rw [cell_of_row _ _ _ _ _ _ HFR.out.1];rfl
 have u9:WF.cell? ⟨g0,9,none⟩=some (.int .i64 (ti:Int)):=by rw [cell_of_row _ _ _ _ _ _ HFR.out.1];rfl
 have u10:WF.cell? ⟨g0,10,none⟩=some (.int .i64 (va:Int)):=by rw [cell_of_row _ _ _ _ _ _ HFR.out.1];rfl
 exact bodyPost_ret (v:= .tuple #[.agg (hdA kd ct na fi la le gr ((ti:Int)+(va:Int)+55) co ti va),.int .i64 0]) (by simp [results,Tryz.results26,go_sem,hdA,u0,u1,u2,u3,u4,u5,u6,u7,u8,u9,u10]) rfl ⟨rfl,HFR.out.2⟩
end Go.Proofs.YtkpmalfigmimaaaGreatDoor
namespace Go.Proofs.YtkpmalfigmimaaaGreatDoor
open Go.RowKit
open M
def qGR (A:Array Value) (c:Int) (w:World) (e:Ending) (w':World):Prop:=e= .returned (.tuple #[.agg A,.int .i64 c])∧Below w.heap.size w w'
theorem bX (kd co ct na le gr ti va:Nat) (fi la:Int) (b o K:Nat) (tb vb:List Nat) (w:World) (hc:qU w b (o+51) (qM (tb++vb))) (htb:tb.length=ti) (hvb:vb.length=va) (ht:∀n∈tb,n<256) (hv:∀n∈vb,n<256) (hK:ti+va+4≤K) (hti:ti≤100000) (hva:va≤100000) (hKm:K≤9223372036854775756) (hT:nO w):
  Calls Tryz.prog 27 #[.agg #[.int .i64 (kd:Int),.int .i64 (ct:Int),.int .i64 (na:Int),.int .i64 fi,.int .i64 la,.int .u64 (le:Int),.int .u64 (gr:Int),.int .i64 ((ti:Int)+(va:Int)+55),.int .i64 (co:Int),.int .i64 (ti:Int),.int .i64 (va:Int)],.slice (some ⟨b,o,none⟩) (ti+va+55) (K+51)] w (qGR (ptA kd ct na fi la le gr ((ti:Int)+(va:Int)+55) co ti va (.slice (some ⟨b,o+51,none⟩) ti K) (.slice (some ⟨b,o+51+ti,none⟩) va (K-ti))) 0 w):=by
 have HUn:=qA (fun (w1:World) (hB:Below w.heap.size w w1)=>wK b (o+51) K (tb++vb) w1 (hc.below hB) (fun n hn=>by rcases List.mem_append.1 hn with h|h;exact ht n h;exact hv n h) (by rw [List.length_append];omega) (by rw [List.length_append];omega) (hT.below hB))
 rw [List.length_append,htb,hvb] at HUn
 clear hc htb hvb ht hv hT
 obtain ⟨q,hq⟩:∃q,w.heap.size=q:=⟨_,rfl⟩
 obtain ⟨W1,hW1⟩:∃W1,(w.alloc (.cells #[.int .i64 (kd:Int),.int .i64 (ct:Int),.int .i64 (na:Int),.int .i64 fi,.int .i64 la,.int .u64 (le:Int),.int .u64 (gr:Int),.int .i64 ((ti:Int)+(va:Int)+55),.int .i64 (co:Int),.int .i64 (ti:Int),.int .i64 (va:Int)] 60)).alloc (.cells #[.int .i64 0,.int .i64 0,.int .i64 0,.int .i64 0,.int .i64 0,.int .u64 0,.int .u64 0,.int .i64 0,.int .i64 0,.int .i64 0,.int .i64 0,.slice none 0 0,.slice none 0 0] 62)=W1:=⟨_,rfl⟩
 have HW1:Hid (W1.heap[q]?=some (.cells #[.int .i64 (kd:Int),.int .i64 (ct:Int),.int .i64 (na:Int),.int .i64 fi,.int .i64 la,.int .u64 (le:Int),.int .u64 (gr:Int),.int .i64 ((ti:Int)+(va:Int)+55),.int .i64 (co:Int),.int .i64 (ti:Int),.int .i64 (va:Int)] 60 (0,0))∧W1.heap[q+1]?=some (.cells #[.int .i64 0,.int .i64 0,.int .i64 0,.int .i64 0,.int .i64 0,.int .u64 0,.int .u64 0,.int .i64 0,.int .i64 0,.int .i64 0,.int .i64 0,.slice none 0 0,.slice none 0 0] 62 (0,0))∧Below w.heap.size w W1):=by
  have hA:Below w.heap.size w (w.alloc (.cells #[.int .i64 (kd:Int),.int .i64 (ct:Int),.int .i64 (na:Int),.int .i64 fi,.int .i64 la,.int .u64 (le:Int),.int .u64 (gr:Int),.int .i64 ((ti:Int)+(va:Int)+55),.int .i64 (co:Int),.int .i64 (ti:Int),.int .i64 (va:Int)] 60)):=(Below.refl _ _).alloc (Nat.le_refl _) _
  have hs:(w.alloc (.cells #[.int .i64 (kd:Int),.int .i64 (ct:Int),.int .i64 (na:Int),.int .i64 fi,.int .i64 la,.int .u64 (le:Int),.int .u64 (gr:Int),.int .i64 ((ti:Int)+(va:Int)+55),.int .i64 (co:Int),.int .i64 (ti:Int),.int .i64 (va:Int)] 60)).heap.size=q+1:=by rw [←hq];simp
  have h1:=heap_alloc_new w (.cells #[.int .i64 (kd:Int),.int .i64 (ct:Int),.int .i64 (na:Int),.int .i64 fi,.int .i64 la,.int .u64 (le:Int),.int .u64 (gr:Int),.int .i64 ((ti:Int)+(va:Int)+55),.int .i64 (co:Int),.int .i64 (ti:Int),.int .i64 (va:Int)] 60)
  rw [hq] at h1
  have hB:Below (w.alloc (.cells #[.int .i64 (kd:Int),.int .i64 (ct:Int),.int .i64 (na:Int),.int .i64 fi,.int .i64 la,.int .u64 (le:Int),.int .u64 (gr:Int),.int .i64 ((ti:Int)+(va:Int)+55),.int .i64 (co:Int),.int .i64 (ti:Int),.int .i64 (va:Int)] 60)).heap.size (w.alloc (.cells #[.int .i64 (kd:Int),.int .i64 (ct:Int),.int .i64 (na:Int),.int .i64 fi,.int .i64 la,.int .u64 (le:Int),.int .u64 (gr:Int),.int .i64 ((ti:Int)+(va:Int)+55),.int .i64 (co:Int),.int .i64 (ti:Int),.int .i64 (va:Int)] 60)) W1:=by rw [←hW1];exact (Below.refl _ _).alloc (Nat.le_refl _) _
  refine ⟨?_,?_,hA.trans (hB.mono hA.size)⟩
  ·rw [hB.block q (by omega)];exact h1
  ·rw [←hW1,←hs];exact heap_alloc_new _ _
 have HQ:=qA hq
 have o0:W1.cell? ⟨q,0,none⟩=some (.int .i64 (kd:Int)):=by rw [cell_of_row _ _ _ _ _ _ HW1.out.1];rfl
 have o1:W1.cell? ⟨q,1,none⟩=some (.int .i64 (ct:Int)):=by rw [cell_of_row _ _ _ _ _ _ HW1.out.1];rfl
 have o2:W1.cell? ⟨q,2,none⟩=some (.int .i64 (na:Int)):=by rw [cell_of_row _ _ _ _ _ _ HW1.out.1];rfl
 have o3:W1.cell? ⟨q,3,none⟩=some (.int .i64 fi):=by rw [cell_of_row _ _ _ _ _ _ HW1.out.1];rfl
 have o4:W1.cell? ⟨q,4,none⟩=some (.int .i64 la):=by rw [cell_of_row _ _ _ _ _ _ HW1.out.1];rfl
 have o5:W1.cell? ⟨q,5,none⟩=some (.int .u64 (le:Int)):=by rw [cell_of_row _ _ _ _ _ _ HW1.out.1];rfl
 have o6:W1.cell? ⟨q,6,none⟩=some (.int .u64 (gr:Int)):=by rw [cell_of_row _ _ _ _ _ _ HW1.out.1];rfl
 have o7:W1.cell? ⟨q,7,none⟩=some (.int .i64 ((ti:Int)+(va:Int)+55)):=by rw [cell_of_row _ _ _ _ _ _ HW1.out.1];rfl
 have o8:W1.cell? ⟨q,8,none⟩=some (.int .i64 (co:Int)):=by rw [cell_of_row _ _ _ _ _ _ HW1.out.1];rfl
 have o9:W1.cell? ⟨q,9,none⟩=some (.int .i64 (ti:Int)):=by rw [cell_of_row _ _ _ _ _ _ HW1.out.1];rfl
 have o10:W1.cell? ⟨q,10,none⟩=some (.int .i64 (va:Int)):=by rw [cell_of_row _ _ _ _ _ _ HW1.out.1];rfl
 have n1:(ti:Int)+(va:Int)+55-51=(ti:Int)+(va:Int)+4:=by omega
 go_enter Tryz.func27,Tryz.ntmps27
 go_wp2_with fail
 (try rw [hW1])
 (try rw [hq])
 clear hW1 hq o0 o1 o2 o3 o4 o5 o6 o7 o8 o9 o10
 refine (HUn.out W1 HW1.out.2.2).mono ?_
 rintro e w2 ⟨rfl,md,rfl⟩
 have HW2:Hid ((W1.drewN md).heap[q]?=some (.cells #[.int .i64 (kd:Int),.int .i64 (ct:Int),.int .i64 (na:Int),.int .i64 fi,.int .i64 la,.int .u64 (le:Int),.int .u64 (gr:Int),.int .i64 ((ti:Int)+(va:Int)+55),.int .i64 (co:Int),.int .i64 (ti:Int),.int .i64 (va:Int)] 60 (0,0))∧(W1.drewN md).heap[q+1]?=some (.cells #[.int .i64 0,.int .i64 0,.int .i64 0,.int .i64 0,.int .i64 0,.int .u64 0,.int .u64 0,.int .i64 0,.int .i64 0,.int .i64 0,.int .i64 0,.slice none 0 0,.slice none 0 0] 62 (0,0))∧Below w.heap.size w (W1.drewN md)):=⟨HW1.out.1,HW1.out.2.1,HW1.out.2.2.os,HW1.out.2.2.tape,HW1.out.2.2.output,HW1.out.2.2.size,HW1.out.2.2.block⟩
 clear HUn HW1
 generalize W1.drewN md=W2 at*
 go_upto_region 8 with fail
 have o0:W2.cell? ⟨q,0,none⟩=some (.int .i64 (kd:Int)):=by rw [cell_of_row _ _ _ _ _ _ HW2.out.1];rfl
 have o1:W2.cell? ⟨q,1,none⟩=some (.int .i64 (ct:Int)):=by rw [cell_of_row _ _ _ _ _ _ HW2.out.1];rfl
 have o2:W2.cell? ⟨q,2,none⟩=some (.int .i64 (na:Int)):=by rw [cell_of_row _ _ _ _ _ _ HW2.out.1];rfl
 have o3:W2.cell? ⟨q,3,none⟩=some (.int .i64 fi):=by rw [cell_of_row _ _ _ _ _ _ HW2.out.1];rfl
 have o4:W2.cell? ⟨q,4,none⟩=some (.int .i64 la):=by rw [cell_of_row _ _ _ _ _ _ HW2.out.1];rfl
 have o5:W2.cell? ⟨q,5,none⟩=some (.int .u64 (le:Int)):=by rw [cell_of_row _ _ _ _ _ _ HW2.out.1];rfl
 have o6:W2.cell? ⟨q,6,none⟩=some (.int .u64 (gr:Int)):=by rw [cell_of_row _ _ _ _ _ _ HW2.out.1];rfl
 have o7:W2.cell? ⟨q,7,none⟩=some (.int .i64 ((ti:Int)+(va:Int)+55)):=by rw [cell_of_row _ _ _ _ _ _ HW2.out.1];rfl
 have o8:W2.cell? ⟨q,8,none⟩=some (.int .i64 (co:Int)):=by rw [cell_of_row _ _ _ _ _ _ HW2.out.1];rfl
 have o9:W2.cell? ⟨q,9,none⟩=some (.int .i64 (ti:Int)):=by rw [cell_of_row _ _ _ _ _ _ HW2.out.1];rfl
 have o10:W2.cell? ⟨q,10,none⟩=some (.int .i64 (va:Int)):=by rw [cell_of_row _ _ _ _ _ _ HW2.out.1];rfl
 have z0:W2.cell? ⟨q+1,0,none⟩=some (.int .i64 0):=by rw [cell_of_row _ _ _ _ _ _ HW2.out.2.1];rfl
 have y0:W2.frozen? ⟨q+1,0,none⟩=false:=frozen_of_row _ _ _ _ _ HW2.out.2.1
 have z1:W2.cell? ⟨q+1,1,none⟩=some (.int .i64 0):=by rw [cell_of_row _ _ _ _ _ _ HW2.out.2.1];rfl
 have y1:W2.frozen? ⟨q+1,1,none⟩=false:=frozen_of_row _ _ _ _ _ HW2.out.2.1
 have z2:W2.cell? ⟨q+1,2,none⟩=some (.int .i64 0):=by rw [cell_of_row _ _ _ _ _ _ HW2.out.2.1];rfl
 have y2:W2.frozen? ⟨q+1,2,none⟩=false:=frozen_of_row _ _ _ _ _ HW2.out.2.1
 have z3:W2.cell? ⟨q+1,3,none⟩=some (.int .i64 0):=by rw [cell_of_row _ _ _ _ _ _ HW2.out.2.1];rfl
 have y3:W2.frozen? ⟨q+1,3,none⟩=false:=frozen_of_row _ _ _ _ _ HW2.out.2.1
 have z4:W2.cell? ⟨q+1,4,none⟩=some (.int .i64 0):=by rw [cell_of_row _ _ _ _ _ _ HW2.out.2.1];rfl
 have y4:W2.frozen? ⟨q+1,4,none⟩=false:=frozen_of_row _ _ _ _ _ HW2.out.2.1
 have z5:W2.cell? ⟨q+1,5,none⟩=some (.int .u64 0):=by rw [cell_of_row _ _ _ _ _ _ HW2.out.2.1];rfl
 have y5:W2.frozen? ⟨q+1,5,none⟩=false:=frozen_of_row _ _ _ _ _ HW2.out.2.1
 have z6:W2.cell? ⟨q+1,6,none⟩=some (.int .u64 0):=by rw [cell_of_row _ _ _ _ _ _ HW2.out.2.1];rfl
 have y6:W2.frozen? ⟨q+1,6,none⟩=false:=frozen_of_row _ _ _ _ _ HW2.out.2.1
 have z7:W2.cell? ⟨q+1,7,none⟩=some (.int .i64 0):=by rw [cell_of_row _ _ _ _ _ _ HW2.out.2.1];rfl
 have y7:W2.frozen? ⟨q+1,7,none⟩=false:=frozen_of_row _ _ _ _ _ HW2.out.2.1
 have z8:W2.cell? ⟨q+1,8,none⟩=some (.int .i64 0):=by rw [cell_of_row _ _ _ _ _ _ HW2.out.2.1];rfl
 have y8:W2.frozen? ⟨q+1,8,none⟩=false:=frozen_of_row _ _ _ _ _ HW2.out.2.1
 have z9:W2.cell? ⟨q+1,9,none⟩=some (.int .i64 0):=by rw [cell_of_row _ _ _ _ _ _ HW2.out.2.1];rfl
 have y9:W2.frozen? ⟨q+1,9,none⟩=false:=frozen_of_row _ _ _ _ _ HW2.out.2.1
 have z10:W2.cell? ⟨q+1,10,none⟩=some (.int .i64 0):=by rw [cell_of_row _ _ _ _ _ _ HW2.out.2.1];rfl
 have y10:W2.frozen? ⟨q+1,10,none⟩=false:=frozen_of_row _ _ _ _ _ HW2.out.2.1
 have z11:W2.cell? ⟨q+1,11,none⟩=some (.slice none 0 0):=by rw [cell_of_row _ _ _ _ _ _ HW2.out.2.1];rfl
 have y11:W2.frozen? ⟨q+1,11,none⟩=false:=frozen_of_row _ _ _ _ _ HW2.out.2.1
 have z12:W2.cell? ⟨q+1,12,none⟩=some (.slice none 0 0):=by rw [cell_of_row _ _ _ _ _ _ HW2.out.2.1];rfl
 have y12:W2.frozen? ⟨q+1,12,none⟩=false:=frozen_of_row _ _ _ _ _ HW2.out.2.1
 have k1:¬K=ti:=by omega
 have k2:ti≤ti+va:=by omega
 have k3:(ti:Int)≤(ti:Int)+(va:Int):=by omega
 have k4:ti≤K:=by omega
 have k5:(ti:Int)≤(K:Int):=by omega
 obtain ⟨X,hX⟩:∃X,(((((((((((((W2.setCell ⟨q+1,0,none⟩ (.int .i64 (kd:Int))).setCell ⟨q+1,1,none⟩ (.int .i64 (ct:Int))).setCell ⟨q+1,2,none⟩ (.int .i64 (na:Int))).setCell ⟨q+1,3,none⟩ (.int .i64 fi)).setCell ⟨q+1,4,none⟩ (.int .i64 la)).setCell ⟨q+1,5,none⟩ (.int .u64 (le:Int))).setCell ⟨q+1,6,none⟩ (.int .u64 (gr:Int))).setCell ⟨q+1,7,none⟩ (.int .i64 ((ti:Int)+(va:Int)+55))).setCell ⟨q+1,8,none⟩ (.int .i64 (co:Int))).setCell ⟨q+1,9,none⟩ (.int .i64 (ti:Int))).setCell ⟨q+1,10,none⟩ (.int .i64 (va:Int))).setCell ⟨q+1,11,none⟩ (.slice (some ⟨b,o+51,none⟩) ti K)).setCell ⟨q+1,12,none⟩ (.slice (some ⟨b,o+51+ti,none⟩) va (K-ti)))=X:=⟨_,rfl⟩
 have hx1:X.heap[q+1]?=some (.cells #[.int .i64 (kd:Int),.int .i64 (ct:Int),.int .i64 (na:Int),.int .i64 fi,.int .i64 la,.int .u64 (le:Int),.int .u64 (gr:Int),.int .i64 ((ti:Int)+(va:Int)+55),.int .i64 (co:Int),.int .i64 (ti:Int),.int .i64 (va:Int),.slice (some ⟨b,o+51,none⟩) ti K,.slice (some ⟨b,o+51+ti,none⟩) va (K-ti)] 62 (0,0)):=by rw [←hX];exact nS _ _ _ _ _ _ _ _ _ _ _ _ _ _ _ _ _ _ _ _ _ _ _ _ _ _ _ _ _ HW2.out.2.1
 have hx2:Below w.heap.size w X:=by rw [←hX];exact vN HW2.out.2.2 _ _ _ _ _ _ _ _ _ _ _ _ _ _ (by have:=HQ.out;omega)
 have HFR:Hid (X.drew.heap[q+1]?=some (.cells #[.int .i64 (kd:Int),.int .i64 (ct:Int),.int .i64 (na:Int),.int .i64 fi,.int .i64 la,.int .u64 (le:Int),.int .u64 (gr:Int),.int .i64 ((ti:Int)+(va:Int)+55),.int .i64 (co:Int),.int .i64 (ti:Int),.int .i64 (va:Int),.slice (some ⟨b,o+51,none⟩) ti K,.slice (some ⟨b,o+51+ti,none⟩) va (K-ti)] 62 (0,0))∧Below w.heap.size w X.drew):=⟨hx1,hx2.drew⟩
 clear hx1 hx2
 clear HW2
 go_region
 go_wp2_with fail
 (try rw [hX])
 clear hX
 obtain ⟨WF,hWF⟩:∃WF,X.drew=WF:=⟨_,rfl⟩
 rw [hWF] at HFR⊢
 clear hWF
 have u0:WF.cell? ⟨q+1,0,none⟩=some (.int .i64 (kd:Int)):=by rw [cell_of_row _ _ _ _ _ _ HFR.out.1];rfl
 have u1:WF.cell? ⟨q+1,1,none⟩=some (.int .i64 (ct:Int)):=by rw [cell_of_row _ _ _ _ _ _ HFR.out.1];rfl
 have u2:WF.cell? ⟨q+1,2,none⟩=some (.int .i64 (na:Int)):=by rw [cell_of_row _ _ _ _ _ _ HFR.out.1];rfl
 have u3:WF.cell? ⟨q+1,3,none⟩=some (.int .i64 fi):=by rw [cell_of_row _ _ _ _ _ _ HFR.out.1];rfl
 have u4:WF.cell? ⟨q+1,4,none⟩=some (.int .i64 la):=by rw [cell_of_row _ _ _ _ _ _ HFR.out.1];rfl
 have u5:WF.cell? ⟨q+1,5,none⟩=some (.int .u64 (le:Int)):=by rw [cell_of_row _ _ _ _ _ _ HFR.out.1];rfl
 have u6:WF.cell? ⟨q+1,6,none⟩=some (.int .u64 (gr:Int)):=by rw [cell_of_row _ _ _ _ _ _ HFR.out.1];rfl
 have u7:WF.cell? ⟨q+1,7,none⟩=some (.int .i64 ((ti:Int)+(va:Int)+55)):=by rw [cell_of_row _ _ _ _ _ _ HFR.out.1];rfl
 have u8:WF.cell? ⟨q+1,8,none⟩=some (.int .i64 (co:Int)):=by rw [cell_of_row _ _ _ _ _ _ HFR.out.1];rfl
 have u9:WF.cell? ⟨q+1,9,none⟩=some (.int .i64 (ti:Int)):=by rw [cell_of_row _ _ _ _ _ _ HFR.out.1];rfl
 have u10:WF.cell? ⟨q+1,10,none⟩=some (.int .i64 (va:Int)):=by rw [cell_of_row _ _ _ _ _ _ HFR.out.1];rfl
 have u11:WF.cell? ⟨q+1,11,none⟩=some (.slice (some ⟨b,o+51,none⟩) ti K):=by rw [cell_of_row _ _ _ _ _ _ HFR.out.1];rfl
 have u12:WF.cell? ⟨q+1,12,none⟩=some (.slice (some ⟨b,o+51+ti,none⟩) va (K-ti)):=by rw [cell_of_row _ _ _ _ _ _ HFR.out.1];rfl
 exact bodyPost_ret (v:= .tuple #[.agg (ptA kd ct na fi la le gr ((ti:Int)+(va:Int)+55) co ti va (.slice (some ⟨b,o+51,none⟩) ti K) (.slice (some ⟨b,o+51+ti,none⟩) va (K-ti))),.int .i64 0]) (by simp [results,Tryz.results27,go_sem,ptA,u0,u1,u2,u3,u4,u5,u6,u7,u8,u9,u10,u11,u12]) rfl ⟨rfl,HFR.out.2⟩
end Go.Proofs.YtkpmalfigmimaaaGreatDoor
