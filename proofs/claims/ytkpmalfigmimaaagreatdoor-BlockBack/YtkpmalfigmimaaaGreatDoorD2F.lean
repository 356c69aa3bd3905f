import Derived.Test.YtkpmalfigmimaaaGreatDoorZ0
import Derived.Test.YtkpmalfigmimaaaGreatDoorD1B
import Derived.Test.YtkpmalfigmimaaaGreatDoorD1D
set_option linter.unusedVariables false
set_option linter.unusedSimpArgs false
set_option maxRecDepth 100000
set_option maxHeartbeats 8000000
namespace Go.Proofs.YtkpmalfigmimaaaGreatDoor
open Go.RowKit
open M
theorem qL.below {w w':World} {p:Option Addr} {m:Nat} {q:Nat→List Nat} (h:qL w p m q) (hB:Below w.heap.size w w'):qL w' p m q:=fun i hi=>by
 obtain ⟨b,o,v,h1,h2,h3⟩:=h i hi
 exact ⟨b,o,v,h1,by rw [hB.cell (p:=⟨b,o+i,none⟩) (block_lt_of_cell h2)];exact h2,qD h3 hB⟩
theorem bO {w:World} {x:Nat} {v:Value} {ty:TypeId} {a:List Nat} (h:w.heap[x]?=some (.cells #[v] ty (0,0))) (ha:jW w v a):qL w (some ⟨x,0,none⟩) 1 (fun _=>a):=fun i hi=>by
 obtain rfl:i=0:=by omega
 exact ⟨x,0,v,rfl,by rw [cell_of_row _ _ _ _ _ _ h];rfl,ha⟩
theorem xC {w:World} {x:Nat} {u v:Value} {ty:TypeId} {a b:List Nat} (h:w.heap[x]?=some (.cells #[u,v] ty (0,0))) (ha:jW w u a) (hb:jW w v b):qL w (some ⟨x,0,none⟩) 2 (fun i=>if i=0 then a else b):=fun i hi=>by
 obtain rfl|rfl:i=0∨i=1:=by omega
 ·exact ⟨x,0,u,rfl,by rw [cell_of_row _ _ _ _ _ _ h];rfl,ha⟩
 ·exact ⟨x,0,v,rfl,by rw [cell_of_row _ _ _ _ _ _ h];rfl,hb⟩
theorem wR {w:World} {g:Nat} {bs:List Nat} (hl:bs.length=47) (h:w.heap[g]?=some (.cells (qM bs).toArray 5 (0,0))):yD w (.slice (some ⟨g,0,none⟩) 47 47) bs:=by
 have:=jD (cap:=47) h
 rw [hl] at this;exact this
def qDF (kd n:Nat) (t:Nat→Int) (v:Nat→Nat) (co T V:Nat):List Nat:=packed (hdB kd co n (kO v n) (u64 (t 0)) (u64 (t (n-1))) (leV v n) (grV v n) T V)
def gZ (kd n:Nat) (t:Nat→Int) (v:Nat→Nat) (co:Nat) (vb:List Nat):List Nat:=qO (qDF kd n t v co (packed (tbn t n)).length vb.length)++qO (packed (tbn t n)++vb)
theorem lN (kd n:Nat) (t:Nat→Int) (v:Nat→Nat) (co T V:Nat):(qDF kd n t v co T V).length=47:=by
 unfold qDF;rw [packed_length,xJ]
structure qEC (w:World) (g q:Nat) (kd m na:Nat) (x0 xl:Int) (lv gv co T V gt cv:Nat) (pv:Option Addr) (tb vb:List Nat) (wr:World):Prop where
 box:wr.heap[q]?=some (.cells #[.int .i64 (kd:Int),.int .i64 ((m:Int)+1),.int .i64 (na:Int),.int .i64 x0,.int .i64 xl,.int .u64 (lv:Int),.int .u64 (gv:Int),.int .i64 ((T:Int)+(V:Int)+55),.int .i64 (co:Int),.int .i64 (T:Int),.int .i64 (V:Int),.slice (some ⟨gt,0,none⟩) T T,.slice pv V cv] 62 (0,0))
 tim:jW wr (.slice (some ⟨gt,0,none⟩) T T) tb
 val:jW wr (.slice pv V cv) vb
 tab:nG wr
 bel:Below g w wr
 le:g≤wr.heap.size
theorem qEC.below {w:World} {g q kd m na:Nat} {x0 xl:Int} {lv gv co T V gt cv:Nat} {pv:Option Addr} {tb vb:List Nat} {wr w2:World} (h:qEC w g q kd m na x0 xl lv gv co T V gt cv pv tb vb wr) (hB:Below wr.heap.size wr w2):qEC w g q kd m na x0 xl lv gv co T V gt cv pv tb vb w2:=
 ⟨by rw [hB.block q (qB h.box)];exact h.box,qD h.tim hB,qD h.val hB,h.tab.below hB,h.bel.trans (hB.mono h.le),Nat.le_trans h.le hB.size⟩
def qKF (kd n:Nat) (t:Nat→Int) (v:Nat→Nat) (w:World) (e:Ending) (w':World):Prop:=
 ∃(co:Nat) (vb:List Nat) (g:Nat),e= .returned (.tuple #[.slice (some ⟨g,0,none⟩) (gZ kd n t v co vb).length (gZ kd n t v co vb).length,.int .i64 0])∧w'.heap[g]?=some (.cells (qM (gZ kd n t v co vb)).toArray 5 (0,0))∧yE kd n v co vb∧(∀n∈vb,n<256)∧Below w.heap.size w w'
theorem qIG (v:Nat→Nat) (n:Nat):leV v n<18446744073709551616:=by
 unfold leV;split
 ·omega
 ·exact vB _ (qCA v n)
theorem qIE (v:Nat→Nat) (n:Nat) (h:∀i,i<n→v i<18446744073709551616):grV v n<18446744073709551616:=by
 unfold grV;split
 ·omega
 ·exact vB _ (qC8 v n h)
theorem qCP (x:Int):IntKind.u64.wrap x=(u64 x:Int):=by rw [IntKind.wrap_u64];unfold u64;omega
theorem u64_lt (x:Int):u64 x<18446744073709551616:=by unfold u64;omega
theorem wB (kd:Nat) (p:Option Addr) (m cap:Nat) (t:Nat→Int) (v:Nat→Nat) (w:World) (h:uB w p (m+1) t v) (hG:qEE kd (m+1) t v) (ht:∀i,i<m+1→I64 (t i)) (hf:∀i,i<m+1→v i<18446744073709551616) (hT:qT w) (hC:nG w):
  Calls Tryz.prog 8 #[.int .i64 (kd:Int),.slice p (m+1) cap] w (qKF kd (m+1) t v w):=by
 have hn:m+1≤4096:=hG.hi
 have hkd:kd<256:=by rcases hG.kd with h|h<;>omega
 have HP:=qA (pY kd p m cap t v w h hG ht hf hT)
 have HTC:=qA hC
 have HF:=qA hf
 clear h hG ht hf hT hC
 go_enter Tryz.func8,Tryz.ntmps8
 go_wp2_with fail
 refine HP.out.mono ?_
 rintro e w2 ⟨co,T,V,gt,cv,pv,vb,rfl,hTl,hTb,hVl,hVb,h256,hval,B2⟩
 have hvl:=xS kd (m+1) v co vb HF.out hval
 rw [←hVl] at hvl
 have hTs:T≤40000:=by have:=xR t (m+1);rw [hTl];omega
 have hVs:V≤40000:=by omega
 have hco:co<256:=by omega
 unfold ptA
 rw [Nat.add_sub_cancel]
 have HBy:=qA (fun w1:World=>qDE kd co (m+1) (kO v (m+1)) (u64 (t 0)) (u64 (t m)) (leV v (m+1)) (grV v (m+1)) T V (t 0) (t m) ((T:Int)+(V:Int)+55) w1 hkd hco (by omega) (by have:=uK v (m+1);omega) (qCP _) (qCP _) (u64_lt _) (u64_lt _) (qIG _ _) (qIE _ _ HF.out) (by omega) (by omega))
 obtain ⟨hb,hhb⟩:∃hb,packed (hdB kd co (m+1) (kO v (m+1)) (u64 (t 0)) (u64 (t m)) (leV v (m+1)) (grV v (m+1)) T V)=hb:=⟨_,rfl⟩
 rw [hhb] at HBy
 have HB47:Hid (hb.length=47):=by show _=_;rw [←hhb,packed_length,xJ]
 have HB256:Hid (∀n∈hb,n<256):=by rw [←hhb];exact zU _
 obtain ⟨tb,htb⟩:∃tb,packed (tbn t (m+1))=tb:=⟨_,rfl⟩
 rw [htb] at hTl hTb
 have HT256:Hid (∀n∈tb,n<256):=by rw [←htb];exact zU _
 have HS1:=qA (fun (w1:World) (x:Nat) (hp:qL w1 (some ⟨x,0,none⟩) 1 (fun _=>hb)) (hC:nG w1)=>dU (some ⟨x,0,none⟩) 1 1 (fun _=>hb) w1 hp (fun _ _=>HB256.out) (by omega) (by simp [xV];rw [HB47.out];omega) hC)
 have HS2:=qA (fun (w1:World) (x:Nat) (hp:qL w1 (some ⟨x,0,none⟩) 2 (fun i=>if i=0 then tb else vb)) (hC:nG w1)=>dU (some ⟨x,0,none⟩) 2 2 (fun i=>if i=0 then tb else vb) w1 hp (fun i _=>by
  show∀n∈(if i=0 then tb else vb),n<256
  split
  ·exact HT256.out
  ·exact h256) (by omega) (by rw [wK,List.length_append];omega) hC)
 have HL1:Hid ((qO hb).length=51):=by show _=_;unfold qO;rw [List.length_append,HB47.out];rfl
 have HL2:Hid ((qO (tb++vb)).length=T+V+4):=by show _=_;unfold qO;rw [List.length_append,List.length_append,←hTl,←hVl];rfl
 have HJ:=qA (fun (w1:World) (x:Nat) (hp:qL w1 (some ⟨x,0,none⟩) 2 (fun i=>if i=0 then qO hb else qO (tb++vb)))=>pD (some ⟨x,0,none⟩) 2 2 (fun i=>if i=0 then qO hb else qO (tb++vb)) w1 hp (by omega) (by rw [wK,List.length_append,HL1.out,HL2.out];omega))
 have ec1:xV (fun _=>hb) 1=hb:=by simp [xV]
 rw [ec1] at HS1
 rw [wK] at HS2 HJ
 clear ec1
 have HBLK:Hid (gZ kd (m+1) t v co vb=qO hb++qO (tb++vb)):=by
  show _=_
  unfold gZ qDF
  rw [Nat.add_sub_cancel,htb,←hTl,←hVl,hhb]
 clear hhb htb
 obtain ⟨x0,hx0⟩:∃x,t 0=x:=⟨_,rfl⟩
 obtain ⟨xl,hxl⟩:∃x,t m=x:=⟨_,rfl⟩
 obtain ⟨na,hna⟩:∃x,kO v (m+1)=x:=⟨_,rfl⟩
 obtain ⟨lv,hlv⟩:∃x,leV v (m+1)=x:=⟨_,rfl⟩
 obtain ⟨gv,hgv⟩:∃x,grV v (m+1)=x:=⟨_,rfl⟩
 rw [hx0,hxl,hna,hlv,hgv] at HBy⊢
 clear hx0 hxl hna hlv hgv
 obtain ⟨q,hq⟩:∃q,w2.heap.size=q:=⟨_,rfl⟩
 obtain ⟨g,hg⟩:∃g,w.heap.size=g:=⟨_,rfl⟩
 obtain ⟨W3,hW3⟩:∃W3,w2.alloc (.cells #[.int .i64 (kd:Int),.int .i64 ((m:Int)+1),.int .i64 (na:Int),.int .i64 x0,.int .i64 xl,.int .u64 (lv:Int),.int .u64 (gv:Int),.int .i64 ((T:Int)+(V:Int)+55),.int .i64 (co:Int),.int .i64 (T:Int),.int .i64 (V:Int),.slice (some ⟨gt,0,none⟩) T T,.slice pv V cv] 62)=W3:=⟨_,rfl⟩
 have HES0:Hid (qEC w g q kd m na x0 xl lv gv co T V gt cv pv tb vb W3):=by
  have hA:Below w2.heap.size w2 W3:=by rw [←hW3];exact (Below.refl _ _).alloc (Nat.le_refl _) _
  have hBY:yD w2 (.slice (some ⟨gt,0,none⟩) T T) tb:=by have:=jD (cap:=T) hTb;rw [←hTl] at this;exact this
  refine ⟨by rw [←hW3,←hq];exact heap_alloc_new _ _,qD (.inl hBY) hA,qD hVb hA,(HTC.out.below B2).below hA,?_,?_⟩
  ·rw [←hg];exact B2.trans (hA.mono B2.size)
  ·rw [←hg];exact Nat.le_trans B2.size hA.size
 have HVV:Hid (yE kd (m+1) v co vb∧∀n∈vb,n<256):=⟨hval,h256⟩
 have HG:=qA hg
 clear hTl hTb hVl hVb h256 hval B2 hvl HP HTC HF hg
 go_upto_region 4 with fail
 (try rw [hW3])
 (try rw [hq])
 clear hW3 hq
 have HES:Hid (qEC w g q kd m na x0 xl lv gv co T V gt cv pv tb vb W3.drew):=⟨HES0.out.box,HES0.out.tim,HES0.out.val,HES0.out.tab,HES0.out.bel.drew,HES0.out.le⟩
 refine wp_region_held_drew (S:=fun w'=>w'.heap[q]?=some (.cells #[.int .i64 (kd:Int),.int .i64 ((m:Int)+1),.int .i64 (na:Int),.int .i64 x0,.int .i64 xl,.int .u64 (lv:Int),.int .u64 (gv:Int),.int .i64 ((T:Int)+(V:Int)+55),.int .i64 (co:Int),.int .i64 (T:Int),.int .i64 (V:Int),.slice (some ⟨gt,0,none⟩) T T,.slice pv V cv] 62 (0,0))) (by kernel_rfl) HES.out.box (fun hHeld=>?_)
 refine wpAnyH_take (i:=0) (v:=?_) rfl (by kernel_rfl) (by kernel_rfl) (by kernel_rfl) (fun _ _ _ h=>h) (Or.inl ⟨by rfl,?_⟩) hHeld ?_
 rotate_left
 ·(intro wq hSw;(try dsimp only at hSw);skip;(go_simp<;>with_reducible rfl))
 try simp only [Act.put,sA,sB,sC,sD,sE,sF]
 refine wpAnyH_take (i:=1) (v:=?_) rfl (by kernel_rfl) (by kernel_rfl) (by kernel_rfl) (fun _ _ _ h=>h) (Or.inl ⟨by rfl,?_⟩) hHeld ?_
 rotate_left
 ·(intro wq hSw;(try dsimp only at hSw);obtain ⟨s0,s1,s2,s3,s4,s5,s6,s7,s8,s9,s10,s11,s12⟩:=rowcells13 hSw;(go_simp<;>with_reducible rfl))
 try simp only [Act.put,sA,sB,sC,sD,sE,sF]
 refine wpAnyH_take (i:=5) (v:=?_) rfl (by kernel_rfl) (by kernel_rfl) (by kernel_rfl) (fun _ _ _ h=>h) (Or.inl ⟨by rfl,?_⟩) hHeld ?_
 rotate_left
 ·(intro wq hSw;(try dsimp only at hSw);skip;(go_simp<;>with_reducible rfl))
 try simp only [Act.put,sA,sB,sC,sD,sE,sF]
 refine wpAnyH_take (i:=6) (v:=?_) rfl (by kernel_rfl) (by kernel_rfl) (by kernel_rfl) (fun _ _ _ h=>h) (Or.inl ⟨by rfl,?_⟩) hHeld ?_
 rotate_left
 ·(intro wq hSw;(try dsimp only at hSw);obtain ⟨s0,s1,s2,s3,s4,s5,s6,s7,s8,s9,s10,s11,s12⟩:=rowcells13 hSw;(go_simp<;>with_reducible rfl))
 try simp only [Act.put,sA,sB,sC,sD,sE,sF]
 refine wpAnyH_take (i:=7) (v:=?_) rfl (by kernel_rfl) (by kernel_rfl) (by kernel_rfl) (fun _ _ _ h=>h) (Or.inl ⟨by rfl,?_⟩) hHeld ?_
 rotate_left
 ·(intro wq hSw;(try dsimp only at hSw);skip;(go_simp<;>with_reducible rfl))
 try simp only [Act.put,sA,sB,sC,sD,sE,sF]
 refine wpAnyH_take (i:=8) (v:=?_) rfl (by kernel_rfl) (by kernel_rfl) (by kernel_rfl) (fun _ _ _ h=>h) (Or.inl ⟨by rfl,?_⟩) hHeld ?_
 rotate_left
 ·(intro wq hSw;(try dsimp only at hSw);obtain ⟨s0,s1,s2,s3,s4,s5,s6,s7,s8,s9,s10,s11,s12⟩:=rowcells13 hSw;(go_simp<;>with_reducible rfl))
 try simp only [Act.put,sA,sB,sC,sD,sE,sF]
 refine wpAnyH_ready (rs:=[2,9]) (by kernel_rfl) (by simp) ?_
 refine AllReadyH.cons rfl (fun K hK=>?_) (AllReadyH.cons rfl (fun K hK=>?_) AllReadyH.nil)
 ·skip
  go_simp
  refine (HBy.out W3.drew).mono ?_
  rintro _ wx1 ⟨ga,rfl,hgg,hrow,B5⟩
  replace HES:=qA (HES.out.below B5)
  have QA0:Hid (jW wx1 (.slice (some ⟨ga,0,none⟩) 47 47) hb):= .inl (wR HB47.out hrow)
  clear hgg hrow B5
  refine hK.out _ _ ?_ (fun hHeld=>?_)
  ·exact HES.out.box
  clear hK K
  try simp only [Act.put,sA,sB,sC,sD,sE,sF]
  refine wpAnyH_ready (rs:=[3,9]) (by kernel_rfl) (by simp) ?_
  refine AllReadyH.cons rfl (fun K hK=>?_) (AllReadyH.cons rfl (fun K hK=>?_) AllReadyH.nil)
  ·skip
   go_simp
   obtain ⟨wx2,hN⟩:∃wx2,(wx1.alloc (.cells #[.slice (some ⟨ga,0,none⟩) 47 47] 28))=wx2:=⟨_,rfl⟩
   have BA:Below wx1.heap.size wx1 wx2:=by rw [←hN];exact ((Below.refl _ _).alloc (Nat.le_refl _) _)
   have HN:Hid (wx2.heap[wx1.heap.size]?=some (.cells #[.slice (some ⟨ga,0,none⟩) 47 47] 28 (0,0))):=by rw [←hN];exact heap_alloc_new _ _
   replace QA0:=qA (qD QA0.out BA)
   replace HES:=qA (HES.out.below BA)
   obtain ⟨xa,hxa⟩:∃xa,wx1.heap.size=xa:=⟨_,rfl⟩
   rw [hxa] at HN
   rw [hN]
   (try rw [hxa])
   clear BA hN hxa
   have QA1:Hid (qL wx2 (some ⟨xa,0,none⟩) 1 (fun _=>hb)):=bO HN.out QA0.out
   clear HN
   refine hK.out _ _ ?_ (fun hHeld=>?_)
   ·exact HES.out.box
   clear hK K
   try simp only [Act.put,sA,sB,sC,sD,sE,sF]
   refine wpAnyH_ready (rs:=[4,9]) (by kernel_rfl) (by simp) ?_
   refine AllReadyH.cons rfl (fun K hK=>?_) (AllReadyH.cons rfl (fun K hK=>?_) AllReadyH.nil)
   ·skip
    go_simp
    refine (HS1.out wx2 xa QA1.out HES.out.tab).mono ?_
    rintro _ wx3 ⟨gc,rfl,hgg,hrow,B5⟩
    replace QA0:=qA (qD QA0.out B5)
    replace QA1:=qA (qL.below QA1.out B5)
    replace HES:=qA (HES.out.below B5)
    have QA2:Hid (jW wx3 (.slice (some ⟨gc,0,none⟩) (qO hb).length (qO hb).length) (qO hb)):= .inl (jD hrow)
    clear hgg hrow B5
    refine hK.out _ _ ?_ (fun hHeld=>?_)
    ·exact HES.out.box
    clear hK K
    try simp only [Act.put,sA,sB,sC,sD,sE,sF]
    refine wpAnyH_ready (rs:=[9]) (by kernel_rfl) (by simp) ?_
    refine AllReadyH.cons rfl (fun K hK=>?_) AllReadyH.nil
    go_simp
    obtain ⟨wx4,hN⟩:∃wx4,(wx3.alloc (.cells #[.slice (some ⟨gt,0,none⟩) T T,.slice pv V cv] 28))=wx4:=⟨_,rfl⟩
    have BA:Below wx3.heap.size wx3 wx4:=by rw [←hN];exact ((Below.refl _ _).alloc (Nat.le_refl _) _)
    have HN:Hid (wx4.heap[wx3.heap.size]?=some (.cells #[.slice (some ⟨gt,0,none⟩) T T,.slice pv V cv] 28 (0,0))):=by rw [←hN];exact heap_alloc_new _ _
    replace QA0:=qA (qD QA0.out BA)
    replace QA1:=qA (qL.below QA1.out BA)
    replace QA2:=qA (qD QA2.out BA)
    replace HES:=qA (HES.out.below BA)
    obtain ⟨xb,hxb⟩:∃xb,wx3.heap.size=xb:=⟨_,rfl⟩
    rw [hxb] at HN
    rw [hN]
    (try rw [hxb])
    clear BA hN hxb
    have QB1:Hid (qL wx4 (some ⟨xb,0,none⟩) 2 (fun i=>if i=0 then tb else vb)):=xC HN.out HES.out.tim HES.out.val
    clear HN
    refine hK.out _ _ ?_ (fun hHeld=>?_)
    ·exact HES.out.box
    clear hK K
    try simp only [Act.put,sA,sB,sC,sD,sE,sF]
    refine wpAnyH_ready (rs:=[10]) (by kernel_rfl) (by simp) ?_
    refine AllReadyH.cons rfl (fun K hK=>?_) AllReadyH.nil
    go_simp
    refine (HS2.out wx4 xb QB1.out HES.out.tab).mono ?_
    rintro _ wx5 ⟨gd,rfl,hgg,hrow,B5⟩
    replace QA0:=qA (qD QA0.out B5)
    replace QA1:=qA (qL.below QA1.out B5)
    replace QA2:=qA (qD QA2.out B5)
    replace QB1:=qA (qL.below QB1.out B5)
    replace HES:=qA (HES.out.below B5)
    have QB2:Hid (jW wx5 (.slice (some ⟨gd,0,none⟩) (qO (tb++vb)).length (qO (tb++vb)).length) (qO (tb++vb))):= .inl (jD hrow)
    clear hgg hrow B5
    refine hK.out _ _ ?_ (fun hHeld=>?_)
    ·exact HES.out.box
    clear hK K
    try simp only [Act.put,sA,sB,sC,sD,sE,sF]
    refine wpAnyH_ready (rs:=[11]) (by kernel_rfl) (by simp) ?_
    refine AllReadyH.cons rfl (fun K hK=>?_) AllReadyH.nil
    go_simp
    obtain ⟨wx6,hN⟩:∃wx6,(wx5.alloc (.cells #[.slice (some ⟨gc,0,none⟩) (qO hb).length (qO hb).length,.slice (some ⟨gd,0,none⟩) (qO (tb++vb)).length (qO (tb++vb)).length] 28))=wx6:=⟨_,rfl⟩
    have BA:Below wx5.heap.size wx5 wx6:=by rw [←hN];exact ((Below.refl _ _).alloc (Nat.le_refl _) _)
    have HN:Hid (wx6.heap[wx5.heap.size]?=some (.cells #[.slice (some ⟨gc,0,none⟩) (qO hb).length (qO hb).length,.slice (some ⟨gd,0,none⟩) (qO (tb++vb)).length (qO (tb++vb)).length] 28 (0,0))):=by rw [←hN];exact heap_alloc_new _ _
    replace QA0:=qA (qD QA0.out BA)
    replace QA1:=qA (qL.below QA1.out BA)
    replace QA2:=qA (qD QA2.out BA)
    replace QB1:=qA (qL.below QB1.out BA)
    replace QB2:=qA (qD QB2.out BA)
    replace HES:=qA (HES.out.below BA)
    obtain ⟨xc,hxc⟩:∃xc,wx5.heap.size=xc:=⟨_,rfl⟩
    rw [hxc] at HN
    rw [hN]
    (try rw [hxc])
    clear BA hN hxc
    have QC:Hid (qL wx6 (some ⟨xc,0,none⟩) 2 (fun i=>if i=0 then qO hb else qO (tb++vb))):=xC HN.out QA2.out QB2.out
    clear HN
    refine hK.out _ _ ?_ (fun hHeld=>?_)
    ·exact HES.out.box
    clear hK K
    try simp only [Act.put,sA,sB,sC,sD,sE,sF]
    refine wpAnyH_ready (rs:=[12]) (by kernel_rfl) (by simp) ?_
    refine AllReadyH.cons rfl (fun K hK=>?_) AllReadyH.nil
    go_simp
    refine (HJ.out wx6 xc QC.out).mono ?_
    rintro _ wz ⟨gz,rfl,hgz,hrow,B5⟩
    replace HES:=qA (HES.out.below B5)
    have HROW:=qA hrow
    clear hgz hrow B5
    refine hK.out _ _ ?_ (fun hHeld=>?_)
    ·exact HES.out.box
    clear hK K
    try simp only [Act.put,sA,sB,sC,sD,sE,sF]
    refine wpAnyH_take (i:=13) (v:=?_) rfl (by kernel_rfl) (by kernel_rfl) (by kernel_rfl) (fun _ _ _ h=>h) (Or.inl ⟨by rfl,?_⟩) hHeld ?_
    rotate_left
    ·(intro wq hSw;(try dsimp only at hSw);skip;(go_simp<;>with_reducible rfl))
    try simp only [Act.put,sA,sB,sC,sD,sE,sF]
    refine wpAnyH_take (i:=14) (v:=?_) rfl (by kernel_rfl) (by kernel_rfl) (by kernel_rfl) (fun _ _ _ h=>h) (Or.inl ⟨by rfl,?_⟩) hHeld ?_
    rotate_left
    ·(intro wq hSw;(try dsimp only at hSw);skip;(go_simp<;>with_reducible rfl))
    try simp only [Act.put,sA,sB,sC,sD,sE,sF]
    refine wpAnyH_done (by kernel_rfl) ?_ _
    go_wp2_with fail
    go_ret2
    exact ⟨co,vb,gz,by rw [HBLK.out];simp,by rw [HBLK.out];exact HROW.out,HVV.out.1,HVV.out.2,by rw [HG.out];exact HES.out.bel⟩
   ·skip
    go_simp
    obtain ⟨wx7,hN⟩:∃wx7,(wx2.alloc (.cells #[.slice (some ⟨gt,0,none⟩) T T,.slice pv V cv] 28))=wx7:=⟨_,rfl⟩
    have BA:Below wx2.heap.size wx2 wx7:=by rw [←hN];exact ((Below.refl _ _).alloc (Nat.le_refl _) _)
    have HN:Hid (wx7.heap[wx2.heap.size]?=some (.cells #[.slice (some ⟨gt,0,none⟩) T T,.slice pv V cv] 28 (0,0))):=by rw [←hN];exact heap_alloc_new _ _
    replace QA0:=qA (qD QA0.out BA)
    replace QA1:=qA (qL.below QA1.out BA)
    replace HES:=qA (HES.out.below BA)
    obtain ⟨xb,hxb⟩:∃xb,wx2.heap.size=xb:=⟨_,rfl⟩
    rw [hxb] at HN
    rw [hN]
    (try rw [hxb])
    clear BA hN hxb
    have QB1:Hid (qL wx7 (some ⟨xb,0,none⟩) 2 (fun i=>if i=0 then tb else vb)):=xC HN.out HES.out.tim HES.out.val
    clear HN
    refine hK.out _ _ ?_ (fun hHeld=>?_)
    ·exact HES.out.box
    clear hK K
    try simp only [Act.put,sA,sB,sC,sD,sE,sF]
    refine wpAnyH_ready (rs:=[4]) (by kernel_rfl) (by simp) ?_
    refine AllReadyH.cons rfl (fun K hK=>?_) AllReadyH.nil
    go_simp
    refine (HS1.out wx7 xa QA1.out HES.out.tab).mono ?_
    rintro _ wx8 ⟨gc,rfl,hgg,hrow,B5⟩
    replace QA0:=qA (qD QA0.out B5)
    replace QA1:=qA (qL.below QA1.out B5)
    replace QB1:=qA (qL.below QB1.out B5)
    replace HES:=qA (HES.out.below B5)
    have QA2:Hid (jW wx8 (.slice (some ⟨gc,0,none⟩) (qO hb).length (qO hb).length) (qO hb)):= .inl (jD hrow)
    clear hgg hrow B5
    refine hK.out _ _ ?_ (fun hHeld=>?_)
    ·exact HES.out.box
    clear hK K
    try simp only [Act.put,sA,sB,sC,sD,sE,sF]
    refine wpAnyH_ready (rs:=[10]) (by kernel_rfl) (by simp) ?_
    refine AllReadyH.cons rfl (fun K hK=>?_) AllReadyH.nil
    go_simp
    refine (HS2.out wx8 xb QB1.out HES.out.tab).mono ?_
    rintro _ wx9 ⟨gd,rfl,hgg,hrow,B5⟩
    replace QA0:=qA (qD QA0.out B5)
    replace QA1:=qA (qL.below QA1.out B5)
    replace QB1:=qA (qL.below QB1.out B5)
    replace QA2:=qA (qD QA2.out B5)
    replace HES:=qA (HES.out.below B5)
    have QB2:Hid (jW wx9 (.slice (some ⟨gd,0,none⟩) (qO (tb++vb)).length (qO (tb++vb)).length) (qO (tb++vb))):= .inl (jD hrow)
    clear hgg hrow B5
    refine hK.out _ _ ?_ (fun hHeld=>?_)
    ·exact HES.out.box
    clear hK K
    try simp only [Act.put,sA,sB,sC,sD,sE,sF]
    refine wpAnyH_ready (rs:=[11]) (by kernel_rfl) (by simp) ?_
    refine AllReadyH.cons rfl (fun K hK=>?_) AllReadyH.nil
    go_simp
    obtain ⟨wx10,hN⟩:∃wx10,(wx9.alloc (.cells #[.slice (some ⟨gc,0,none⟩) (qO hb).length (qO hb).length,.slice (some ⟨gd,0,none⟩) (qO (tb++vb)).length (qO (tb++vb)).length] 28))=wx10:=⟨_,rfl⟩
    have BA:Below wx9.heap.size wx9 wx10:=by rw [←hN];exact ((Below.refl _ _).alloc (Nat.le_refl _) _)
    have HN:Hid (wx10.heap[wx9.heap.size]?=some (.cells #[.slice (some ⟨gc,0,none⟩) (qO hb).length (qO hb).length,.slice (some ⟨gd,0,none⟩) (qO (tb++vb)).length (qO (tb++vb)).length] 28 (0,0))):=by rw [←hN];exact heap_alloc_new _ _
    replace QA0:=qA (qD QA0.out BA)
    replace QA1:=qA (qL.below QA1.out BA)
    replace QB1:=qA (qL.below QB1.out BA)
    replace QA2:=qA (qD QA2.out BA)
    replace QB2:=qA (qD QB2.out BA)
    replace HES:=qA (HES.out.below BA)
    obtain ⟨xc,hxc⟩:∃xc,wx9.heap.size=xc:=⟨_,rfl⟩
    rw [hxc] at HN
    rw [hN]
    (try rw [hxc])
    clear BA hN hxc
    have QC:Hid (qL wx10 (some ⟨xc,0,none⟩) 2 (fun i=>if i=0 then qO hb else qO (tb++vb))):=xC HN.out QA2.out QB2.out
    clear HN
    refine hK.out _ _ ?_ (fun hHeld=>?_)
    ·exact HES.out.box
    clear hK K
    try simp only [Act.put,sA,sB,sC,sD,sE,sF]
    refine wpAnyH_ready (rs:=[12]) (by kernel_rfl) (by simp) ?_
    refine AllReadyH.cons rfl (fun K hK=>?_) AllReadyH.nil
    go_simp
    refine (HJ.out wx10 xc QC.out).mono ?_
    rintro _ wz ⟨gz,rfl,hgz,hrow,B5⟩
    replace HES:=qA (HES.out.below B5)
    have HROW:=qA hrow
    clear hgz hrow B5
    refine hK.out _ _ ?_ (fun hHeld=>?_)
    ·exact HES.out.box
    clear hK K
    try simp only [Act.put,sA,sB,sC,sD,sE,sF]
    refine wpAnyH_take (i:=13) (v:=?_) rfl (by kernel_rfl) (by kernel_rfl) (by kernel_rfl) (fun _ _ _ h=>h) (Or.inl ⟨by rfl,?_⟩) hHeld ?_
    rotate_left
    ·(intro wq hSw;(try dsimp only at hSw);skip;(go_simp<;>with_reducible rfl))
    try simp only [Act.put,sA,sB,sC,sD,sE,sF]
    refine wpAnyH_take (i:=14) (v:=?_) rfl (by kernel_rfl) (by kernel_rfl) (by kernel_rfl) (fun _ _ _ h=>h) (Or.inl ⟨by rfl,?_⟩) hHeld ?_
    rotate_left
    ·(intro wq hSw;(try dsimp only at hSw);skip;(go_simp<;>with_reducible rfl))
    try simp only [Act.put,sA,sB,sC,sD,sE,sF]
    refine wpAnyH_done (by kernel_rfl) ?_ _
    go_wp2_with fail
    go_ret2
    exact ⟨co,vb,gz,by rw [HBLK.out];simp,by rw [HBLK.out];exact HROW.out,HVV.out.1,HVV.out.2,by rw [HG.out];exact HES.out.bel⟩
  ·skip
   go_simp
   obtain ⟨wx11,hN⟩:∃wx11,(wx1.alloc (.cells #[.slice (some ⟨gt,0,none⟩) T T,.slice pv V cv] 28))=wx11:=⟨_,rfl⟩
   have BA:Below wx1.heap.size wx1 wx11:=by rw [←hN];exact ((Below.refl _ _).alloc (Nat.le_refl _) _)
   have HN:Hid (wx11.heap[wx1.heap.size]?=some (.cells #[.slice (some ⟨gt,0,none⟩) T T,.slice pv V cv] 28 (0,0))):=by rw [←hN];exact heap_alloc_new _ _
   replace QA0:=qA (qD QA0.out BA)
   replace HES:=qA (HES.out.below BA)
   obtain ⟨xb,hxb⟩:∃xb,wx1.heap.size=xb:=⟨_,rfl⟩
   rw [hxb] at HN
   rw [hN]
   (try rw [hxb])
   clear BA hN hxb
   have QB1:Hid (qL wx11 (some ⟨xb,0,none⟩) 2 (fun i=>if i=0 then tb else vb)):=xC HN.out HES.out.tim HES.out.val
   clear HN
   refine hK.out _ _ ?_ (fun hHeld=>?_)
   ·exact HES.out.box
   clear hK K
   try simp only [Act.put,sA,sB,sC,sD,sE,sF]
   refine wpAnyH_ready (rs:=[3]) (by kernel_rfl) (by simp) ?_
   refine AllReadyH.cons rfl (fun K hK=>?_) AllReadyH.nil
   go_simp
   obtain ⟨wx12,hN⟩:∃wx12,(wx11.alloc (.cells #[.slice (some ⟨ga,0,none⟩) 47 47] 28))=wx12:=⟨_,rfl⟩
   have BA:Below wx11.heap.size wx11 wx12:=by rw [←hN];exact ((Below.refl _ _).alloc (Nat.le_refl _) _)
   have HN:Hid (wx12.heap[wx11.heap.size]?=some (.cells #[.slice (some ⟨ga,0,none⟩) 47 47] 28 (0,0))):=by rw [←hN];exact heap_alloc_new _ _
   replace QA0:=qA (qD QA0.out BA)
   replace QB1:=qA (qL.below QB1.out BA)
   replace HES:=qA (HES.out.below BA)
   obtain ⟨xa,hxa⟩:∃xa,wx11.heap.size=xa:=⟨_,rfl⟩
   rw [hxa] at HN
   rw [hN]
   (try rw [hxa])
   clear BA hN hxa
   have QA1:Hid (qL wx12 (some ⟨xa,0,none⟩) 1 (fun _=>hb)):=bO HN.out QA0.out
   clear HN
   refine hK.out _ _ ?_ (fun hHeld=>?_)
   ·exact HES.out.box
   clear hK K
   try simp only [Act.put,sA,sB,sC,sD,sE,sF]
   refine wpAnyH_ready (rs:=[4]) (by kernel_rfl) (by simp) ?_
   refine AllReadyH.cons rfl (fun K hK=>?_) AllReadyH.nil
   go_simp
   refine (HS1.out wx12 xa QA1.out HES.out.tab).mono ?_
   rintro _ wx13 ⟨gc,rfl,hgg,hrow,B5⟩
   replace QA0:=qA (qD QA0.out B5)
   replace QB1:=qA (qL.below QB1.out B5)
   replace QA1:=qA (qL.below QA1.out B5)
   replace HES:=qA (HES.out.below B5)
   have QA2:Hid (jW wx13 (.slice (some ⟨gc,0,none⟩) (qO hb).length (qO hb).length) (qO hb)):= .inl (jD hrow)
   clear hgg hrow B5
   refine hK.out _ _ ?_ (fun hHeld=>?_)
   ·exact HES.out.box
   clear hK K
   try simp only [Act.put,sA,sB,sC,sD,sE,sF]
   refine wpAnyH_ready (rs:=[10]) (by kernel_rfl) (by simp) ?_
   refine AllReadyH.cons rfl (fun K hK=>?_) AllReadyH.nil
   go_simp
   refine (HS2.out wx13 xb QB1.out HES.out.tab).mono ?_
   rintro _ wx14 ⟨gd,rfl,hgg,hrow,B5⟩
   replace QA0:=qA (qD QA0.out B5)
   replace QB1:=qA (qL.below QB1.out B5)
   replace QA1:=qA (qL.below QA1.out B5)
   replace QA2:=qA (qD QA2.out B5)
   replace HES:=qA (HES.out.below B5)
   have QB2:Hid (jW wx14 (.slice (some ⟨gd,0,none⟩) (qO (tb++vb)).length (qO (tb++vb)).length) (qO (tb++vb))):= .inl (jD hrow)
   clear hgg hrow B5
   refine hK.out _ _ ?_ (fun hHeld=>?_)
   ·exact HES.out.box
   clear hK K
   try simp only [Act.put,sA,sB,sC,sD,sE,sF]
   refine wpAnyH_ready (rs:=[11]) (by kernel_rfl) (by simp) ?_
   refine AllReadyH.cons rfl (fun K hK=>?_) AllReadyH.nil
   go_simp
   obtain ⟨wx15,hN⟩:∃wx15,(wx14.alloc (.cells #[.slice (some ⟨gc,0,none⟩) (qO hb).length (qO hb).length,.slice (some ⟨gd,0,none⟩) (qO (tb++vb)).length (qO (tb++vb)).length] 28))=wx15:=⟨_,rfl⟩
   have BA:Below wx14.heap.size wx14 wx15:=by rw [←hN];exact ((Below.refl _ _).alloc (Nat.le_refl _) _)
   have HN:Hid (wx15.heap[wx14.heap.size]?=some (.cells #[.slice (some ⟨gc,0,none⟩) (qO hb).length (qO hb).length,.slice (some ⟨gd,0,none⟩) (qO (tb++vb)).length (qO (tb++vb)).length] 28 (0,0))):=by rw [←hN];exact heap_alloc_new _ _
   replace QA0:=qA (qD QA0.out BA)
   replace QB1:=qA (qL.below QB1.out BA)
   replace QA1:=qA (qL.below QA1.out BA)
   replace QA2:=qA (qD QA2.out BA)
   replace QB2:=qA (qD QB2.out BA)
   replace HES:=qA (HES.out.below BA)
   obtain ⟨xc,hxc⟩:∃xc,wx14.heap.size=xc:=⟨_,rfl⟩
   rw [hxc] at HN
   rw [hN]
   (try rw [hxc])
   clear BA hN hxc
   have QC:Hid (qL wx15 (some ⟨xc,0,none⟩) 2 (fun i=>if i=0 then qO hb else qO (tb++vb))):=xC HN.out QA2.out QB2.out
   clear HN
   refine hK.out _ _ ?_ (fun hHeld=>?_)
   ·exact HES.out.box
   clear hK K
   try simp only [Act.put,sA,sB,sC,sD,sE,sF]
   refine wpAnyH_ready (rs:=[12]) (by kernel_rfl) (by simp) ?_
   refine AllReadyH.cons rfl (fun K hK=>?_) AllReadyH.nil
   go_simp
   refine (HJ.out wx15 xc QC.out).mono ?_
   rintro _ wz ⟨gz,rfl,hgz,hrow,B5⟩
   replace HES:=qA (HES.out.below B5)
   have HROW:=qA hrow
   clear hgz hrow B5
   refine hK.out _ _ ?_ (fun hHeld=>?_)
   ·exact HES.out.box
   clear hK K
   try simp only [Act.put,sA,sB,sC,sD,sE,sF]
   refine wpAnyH_take (i:=13) (v:=?_) rfl (by kernel_rfl) (by kernel_rfl) (by kernel_rfl) (fun _ _ _ h=>h) (Or.inl ⟨by rfl,?_⟩) hHeld ?_
   rotate_left
   ·(intro wq hSw;(try dsimp only at hSw);skip;(go_simp<;>with_reducible rfl))
   try simp only [Act.put,sA,sB,sC,sD,sE,sF]
   refine wpAnyH_take (i:=14) (v:=?_) rfl (by kernel_rfl) (by kernel_rfl) (by kernel_rfl) (fun _ _ _ h=>h) (Or.inl ⟨by rfl,?_⟩) hHeld ?_
   rotate_left
   ·(intro wq hSw;(try dsimp only at hSw);skip;(go_simp<;>with_reducible rfl))
   try simp only [Act.put,sA,sB,sC,sD,sE,sF]
   refine wpAnyH_done (by kernel_rfl) ?_ _
   go_wp2_with fail
   go_ret2
   exact ⟨co,vb,gz,by rw [HBLK.out];simp,by rw [HBLK.out];exact HROW.out,HVV.out.1,HVV.out.2,by rw [HG.out];exact HES.out.bel⟩
 ·skip
  go_simp
  obtain ⟨wx16,hN⟩:∃wx16,(W3.alloc (.cells #[.slice (some ⟨gt,0,none⟩) T T,.slice pv V cv] 28)).drew=wx16:=⟨_,rfl⟩
  have BA:Below W3.heap.size W3 wx16:=by rw [←hN];exact ((Below.refl _ _).alloc (Nat.le_refl _) _).drew
  replace HES:=HES0
  have HN:Hid (wx16.heap[W3.heap.size]?=some (.cells #[.slice (some ⟨gt,0,none⟩) T T,.slice pv V cv] 28 (0,0))):=by rw [←hN];exact heap_alloc_new _ _
  replace HES:=qA (HES.out.below BA)
  obtain ⟨xb,hxb⟩:∃xb,W3.heap.size=xb:=⟨_,rfl⟩
  rw [hxb] at HN
  rw [hN]
  (try rw [hxb])
  clear BA hN hxb
  have QB1:Hid (qL wx16 (some ⟨xb,0,none⟩) 2 (fun i=>if i=0 then tb else vb)):=xC HN.out HES.out.tim HES.out.val
  clear HN
  refine hK.out _ _ ?_ (fun hHeld=>?_)
  ·exact HES.out.box
  clear hK K
  try simp only [Act.put,sA,sB,sC,sD,sE,sF]
  refine wpAnyH_ready (rs:=[2]) (by kernel_rfl) (by simp) ?_
  refine AllReadyH.cons rfl (fun K hK=>?_) AllReadyH.nil
  go_simp
  refine (HBy.out wx16).mono ?_
  rintro _ wx17 ⟨ga,rfl,hgg,hrow,B5⟩
  replace QB1:=qA (qL.below QB1.out B5)
  replace HES:=qA (HES.out.below B5)
  have QA0:Hid (jW wx17 (.slice (some ⟨ga,0,none⟩) 47 47) hb):= .inl (wR HB47.out hrow)
  clear hgg hrow B5
  refine hK.out _ _ ?_ (fun hHeld=>?_)
  ·exact HES.out.box
  clear hK K
  try simp only [Act.put,sA,sB,sC,sD,sE,sF]
  refine wpAnyH_ready (rs:=[3]) (by kernel_rfl) (by simp) ?_
  refine AllReadyH.cons rfl (fun K hK=>?_) AllReadyH.nil
  go_simp
  obtain ⟨wx18,hN⟩:∃wx18,(wx17.alloc (.cells #[.slice (some ⟨ga,0,none⟩) 47 47] 28))=wx18:=⟨_,rfl⟩
  have BA:Below wx17.heap.size wx17 wx18:=by rw [←hN];exact ((Below.refl _ _).alloc (Nat.le_refl _) _)
  have HN:Hid (wx18.heap[wx17.heap.size]?=some (.cells #[.slice (some ⟨ga,0,none⟩) 47 47] 28 (0,0))):=by rw [←hN];exact heap_alloc_new _ _
  replace QB1:=qA (qL.below QB1.out BA)
  replace QA0:=qA (qD QA0.out BA)
  replace HES:=qA (HES.out.below BA)
  obtain ⟨xa,hxa⟩:∃xa,wx17.heap.size=xa:=⟨_,rfl⟩
  rw [hxa] at HN
  rw [hN]
  (try rw [hxa])
  clear BA hN hxa
  have QA1:Hid (qL wx18 (some ⟨xa,0,none⟩) 1 (fun _=>hb)):=bO HN.out QA0.out
  clear HN
  refine hK.out _ _ ?_ (fun hHeld=>?_)
  ·exact HES.out.box
  clear hK K
  try simp only [Act.put,sA,sB,sC,sD,sE,sF]
  refine wpAnyH_ready (rs:=[4]) (by kernel_rfl) (by simp) ?_
  refine AllReadyH.cons rfl (fun K hK=>?_) AllReadyH.nil
  go_simp
  refine (HS1.out wx18 xa QA1.out HES.out.tab).mono ?_
  rintro _ wx19 ⟨gc,rfl,hgg,hrow,B5⟩
  replace QB1:=qA (qL.below QB1.out B5)
  replace QA0:=qA (qD QA0.out B5)
  replace QA1:=qA (qL.below QA1.out B5)
  replace HES:=qA (HES.out.below B5)
  have QA2:Hid (jW wx19 (.slice (some ⟨gc,0,none⟩) (qO hb).length (qO hb).length) (qO hb)):= .inl (jD hrow)
  clear hgg hrow B5
  refine hK.out _ _ ?_ (fun hHeld=>?_)
  ·exact HES.out.box
  clear hK K
  try simp only [Act.put,sA,sB,sC,sD,sE,sF]
  refine wpAnyH_ready (rs:=[10]) (by kernel_rfl) (by simp) ?_
  refine AllReadyH.cons rfl (fun K hK=>?_) AllReadyH.nil
  go_simp
  refine (HS2.out wx19 xb QB1.out HES.out.tab).mono ?_
  rintro _ wx20 ⟨gd,rfl,hgg,hrow,B5⟩
  replace QB1:=qA (qL.below QB1.out B5)
  replace QA0:=qA (qD QA0.out B5)
  replace QA1:=qA (qL.below QA1.out B5)
  replace QA2:=qA (qD QA2.out B5)
  replace HES:=qA (HES.out.below B5)
  have QB2:Hid (jW wx20 (.slice (some ⟨gd,0,none⟩) (qO (tb++vb)).length (qO (tb++vb)).length) (qO (tb++vb))):= .inl (jD hrow)
  clear hgg hrow B5
  refine hK.out _ _ ?_ (fun hHeld=>?_)
  ·exact HES.out.box
  clear hK K
  try simp only [Act.put,sA,sB,sC,sD,sE,sF]
  refine wpAnyH_ready (rs:=[11]) (by kernel_rfl) (by simp) ?_
  refine AllReadyH.cons rfl (fun K hK=>?_) AllReadyH.nil
  go_simp
  obtain ⟨wx21,hN⟩:∃wx21,(wx20.alloc (.cells #[.slice (some ⟨gc,0,none⟩) (qO hb).length (qO hb).length,.slice (some ⟨gd,0,none⟩) (qO (tb++vb)).length (qO (tb++vb)).length] 28))=wx21:=⟨_,rfl⟩
  have BA:Below wx20.heap.size wx20 wx21:=by rw [←hN];exact ((Below.refl _ _).alloc (Nat.le_refl _) _)
  have HN:Hid (wx21.heap[wx20.heap.size]?=some (.cells #[.slice (some ⟨gc,0,none⟩) (qO hb).length (qO hb).length,.slice (some ⟨gd,0,none⟩) (qO (tb++vb)).length (qO (tb++vb)).length] 28 (0,0))):=by rw [←hN];exact heap_alloc_new _ _
  replace QB1:=qA (qL.below QB1.out BA)
  replace QA0:=qA (qD QA0.out BA)
  replace QA1:=qA (qL.below QA1.out BA)
  replace QA2:=qA (qD QA2.out BA)
  replace QB2:=qA (qD QB2.out BA)
  replace HES:=qA (HES.out.below BA)
  obtain ⟨xc,hxc⟩:∃xc,wx20.heap.size=xc:=⟨_,rfl⟩
  rw [hxc] at HN
  rw [hN]
  (try rw [hxc])
  clear BA hN hxc
  have QC:Hid (qL wx21 (some ⟨xc,0,none⟩) 2 (fun i=>if i=0 then qO hb else qO (tb++vb))):=xC HN.out QA2.out QB2.out
  clear HN
  refine hK.out _ _ ?_ (fun hHeld=>?_)
  ·exact HES.out.box
  clear hK K
  try simp only [Act.put,sA,sB,sC,sD,sE,sF]
  refine wpAnyH_ready (rs:=[12]) (by kernel_rfl) (by simp) ?_
  refine AllReadyH.cons rfl (fun K hK=>?_) AllReadyH.nil
  go_simp
  refine (HJ.out wx21 xc QC.out).mono ?_
  rintro _ wz ⟨gz,rfl,hgz,hrow,B5⟩
  replace HES:=qA (HES.out.below B5)
  have HROW:=qA hrow
  clear hgz hrow B5
  refine hK.out _ _ ?_ (fun hHeld=>?_)
  ·exact HES.out.box
  clear hK K
  try simp only [Act.put,sA,sB,sC,sD,sE,sF]
  refine wpAnyH_take (i:=13) (v:=?_) rfl (by kernel_rfl) (by kernel_rfl) (by kernel_rfl) (fun _ _ _ h=>h) (Or.inl ⟨by rfl,?_⟩) hHeld ?_
  rotate_left
  ·(intro wq hSw;(try dsimp only at hSw);skip;(go_simp<;>with_reducible rfl))
  try simp only [Act.put,sA,sB,sC,sD,sE,sF]
  refine wpAnyH_take (i:=14) (v:=?_) rfl (by kernel_rfl) (by kernel_rfl) (by kernel_rfl) (fun _ _ _ h=>h) (Or.inl ⟨by rfl,?_⟩) hHeld ?_
  rotate_left
  ·(intro wq hSw;(try dsimp only at hSw);skip;(go_simp<;>with_reducible rfl))
  try simp only [Act.put,sA,sB,sC,sD,sE,sF]
  refine wpAnyH_done (by kernel_rfl) ?_ _
  go_wp2_with fail
  go_ret2
  exact ⟨co,vb,gz,by rw [HBLK.out];simp,by rw [HBLK.out];exact HROW.out,HVV.out.1,HVV.out.2,by rw [HG.out];exact HES.out.bel⟩
end Go.Proofs.YtkpmalfigmimaaaGreatDoor
