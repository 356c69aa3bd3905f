import Derived.Test.YtkpmalfigmimaaaGreatDoorZ0
import Derived.Test.YtkpmalfigmimaaaGreatDoorP1J64
set_option linter.unusedVariables false
set_option linter.unusedSimpArgs false
set_option maxRecDepth 100000
set_option maxHeartbeats 8000000
namespace Go.Proofs.YtkpmalfigmimaaaGreatDoor
open Go.RowKit
open M
theorem qDZ (b c:Nat) (s:ByteArray) (a:Nat) (e0:Int) (p L N:Nat) (w:World) (h:Rd w b 0 s a e0) (hC:zD w c p L N) (hbc:c≠b) (hw:L+N≤64) (hp:p<18446744073709551616)
  (hT:qT w) (hTb:2≠b) (hTc:2≠c):Calls Tryz.prog 179 #[.pointer (some ⟨c,0,none⟩),.pointer (some ⟨b,0,none⟩)] w (nI w b c s a e0 p L N):=by
 have ha:=qA h.le
 have HC:=qA hC
 have HT:=qA hT
 have HL:=qA hw
 have HP:=qA hp
 clear hC hT hw hp
 go_enter Tryz.func179,Tryz.ntmps179
 go_wp2_with fail
 refine (dW b 0 s a e0 w h).mono ?_
 rintro e w1 ⟨v1,a1,e1,rfl,T1,hv1⟩
 cases v1 with
 |false=>
  go_wp2_with fail
  go_ret
  refine ⟨true,0,a1,e1,rfl,T1.rd,jB.ofB T1.only,by omega,fun _=>⟨?_,fun he=>T1.sound he⟩,fun h0 y r hy hr=>?_⟩
  ·rw [Nat.xor_zero];exact HC.out.other T1.only hbc
  ·subst h0
   obtain ⟨h1,h2⟩:=qBY T1 ha.out hr
   exact ⟨rfl,h2.symm,h1⟩
 |true=>
  obtain rfl:e1=0:=hv1 rfl
  obtain rfl:e0=0:=(T1.sound rfl).1
  clear hv1 h
  have HC1:=qA (HC.out.other T1.only hbc)
  have c1:w1.cell? ⟨c,1,none⟩=some (.int .i64 (L:Int)):=HC1.out.lead
  have c2:w1.cell? ⟨c,2,none⟩=some (.int .i64 (N:Int)):=HC1.out.len
  have HT1:=qA T1
  clear T1
  have hb1:Hid (b<w1.heap.size):=block_lt_of_cell HT1.out.rd.text
  have HR1:Hid (Rd w1.drew b 0 s a1 0):=HT1.out.rd.below (w':=w1.drew) (B:=w1.heap.size) ⟨rfl,rfl,rfl,Nat.le_refl _,fun _ _=>rfl⟩ hb1.out
  have HR2:Hid (Rd (w1.drew.alloc (.cells #[.int .i64 0,.int .i64 0] 224)) b 0 s a1 0):=HR1.out.below (B:=w1.drew.heap.size) ((Below.refl _ _).alloc (Nat.le_refl _) _) hb1.out
  go_upto_region 3 with fail
  go_cut [5,6] from 13 (fun t5 t6 wc=>∃(H:Nat) (v2:Bool) (a2:Nat) (e2:Int),t5= .pointer (some ⟨H,0,none⟩)∧t6= .bool v2∧Hid (Tk w1 wc b 0 s a1 0 a2 e2 [v2]∧(v2=true→e2=0)∧w1.heap.size≤H∧H<wc.heap.size∧wc.cell? ⟨H,0,none⟩=some (.int .i64 (L:Int))∧wc.cell? ⟨H,1,none⟩=some (.int .i64 (N:Int))∧(∀i,wc.frozen? ⟨H,i,none⟩=false)))
  case first=>
   refine wp_region_held_drew (S:=fun w'=>w'.cell? ⟨c,1,none⟩=some (.int .i64 (L:Int))∧w'.cell? ⟨c,2,none⟩=some (.int .i64 (N:Int))) (by kernel_rfl) ⟨c1,c2⟩ (fun hHeld=>?_)
   refine wpAnyH_take (i:=0) (v:=?_) rfl (by kernel_rfl) (by kernel_rfl) (by kernel_rfl) (fun _ _ _ h=>h) (Or.inl ⟨by rfl,?_⟩) hHeld ?_
   rotate_left
   ·(intro wq hSw;(try dsimp only at hSw);(try obtain ⟨s0,s1⟩:=hSw);(go_simp<;>with_reducible rfl))
   try simp only [Act.put,sA,sB,sC,sD,sE,sF]
   refine wpAnyH_take (i:=1) (v:=?_) rfl (by kernel_rfl) (by kernel_rfl) (by kernel_rfl) (fun _ _ _ h=>h) (Or.inl ⟨by rfl,?_⟩) hHeld ?_
   rotate_left
   ·(intro wq hSw;(try dsimp only at hSw);(try obtain ⟨s0,s1⟩:=hSw);(go_simp<;>with_reducible rfl))
   try simp only [Act.put,sA,sB,sC,sD,sE,sF]
   refine wpAnyH_take (i:=2) (v:=?_) rfl (by kernel_rfl) (by kernel_rfl) (by kernel_rfl) (fun _ _ _ h=>h) (Or.inl ⟨by rfl,?_⟩) hHeld ?_
   rotate_left
   ·(intro wq hSw;(try dsimp only at hSw);(try obtain ⟨s0,s1⟩:=hSw);(go_simp<;>with_reducible rfl))
   try simp only [Act.put,sA,sB,sC,sD,sE,sF]
   refine wpAnyH_take (i:=3) (v:=?_) rfl (by kernel_rfl) (by kernel_rfl) (by kernel_rfl) (fun _ _ _ h=>h) (Or.inl ⟨by rfl,?_⟩) hHeld ?_
   rotate_left
   ·(intro wq hSw;(try dsimp only at hSw);(try obtain ⟨s0,s1⟩:=hSw);(go_simp<;>with_reducible rfl))
   try simp only [Act.put,sA,sB,sC,sD,sE,sF]
   refine wpAnyH_take (i:=4) (v:=?_) rfl (by kernel_rfl) (by kernel_rfl) (by kernel_rfl) (fun _ _ _ h=>h) (Or.inl ⟨by rfl,?_⟩) hHeld ?_
   rotate_left
   ·(intro wq hSw;(try dsimp only at hSw);(try obtain ⟨s0,s1⟩:=hSw);(go_simp<;>with_reducible rfl))
   try simp only [Act.put,sA,sB,sC,sD,sE,sF]
   refine wpAnyH_ready (rs:=[5,6]) (by kernel_rfl) (by simp) ?_
   refine AllReadyH.cons rfl (fun K hK=>?_) (AllReadyH.cons rfl (fun K hK=>?_) AllReadyH.nil)
   ·go_simp
    refine (dW b 0 s a1 0 w1.drew HR1.out).mono ?_
    rintro e w2 ⟨v2,a2,e2,rfl,T2,hv2⟩
    have hce:c<w1.heap.size:=HC1.out.lt
    have e1:w2.cell? ⟨c,1,none⟩=some (.int .i64 (L:Int)):=by rw [World.cell?_of_block (T2.only.block c hce hbc)];exact c1
    have e2':w2.cell? ⟨c,2,none⟩=some (.int .i64 (N:Int)):=by rw [World.cell?_of_block (T2.only.block c hce hbc)];exact c2
    go_wp2_with fail
    refine hK.out _ _ ⟨e1,e2'⟩ (fun hHeld=>?_)
    clear hK K
    try simp only [Act.put,sA,sB,sC,sD,sE,sF]
    refine wpAnyH_ready (rs:=[6]) (by kernel_rfl) (by simp) ?_
    refine AllReadyH.cons rfl (fun K hK=>?_) AllReadyH.nil
    go_simp
    obtain ⟨H,hH⟩:∃H,w2.heap.size=H:=⟨_,rfl⟩
    have hN:=heap_alloc_new w2 (.cells #[.int .i64 0,.int .i64 0] 224)
    have B3:Below w2.heap.size w2 (w2.alloc (.cells #[.int .i64 0,.int .i64 0] 224)):=(Below.refl _ _).alloc (Nat.le_refl _) _
    have hcs:c<w2.heap.size:=Nat.lt_of_lt_of_le hce T2.only.size
    have x1:(w2.alloc (.cells #[.int .i64 0,.int .i64 0] 224)).cell? ⟨c,1,none⟩=some (.int .i64 (L:Int)):=by rw [B3.cell (p:=⟨c,1,none⟩) hcs];exact e1
    have x2:(w2.alloc (.cells #[.int .i64 0,.int .i64 0] 224)).cell? ⟨c,2,none⟩=some (.int .i64 (N:Int)):=by rw [B3.cell (p:=⟨c,2,none⟩) hcs];exact e2'
    have g0:(w2.alloc (.cells #[.int .i64 0,.int .i64 0] 224)).cell? ⟨w2.heap.size,0,none⟩=some (.int .i64 0):=by rw [cell_of_row _ _ _ _ _ _ hN];rfl
    have g1:(w2.alloc (.cells #[.int .i64 0,.int .i64 0] 224)).cell? ⟨w2.heap.size,1,none⟩=some (.int .i64 0):=by rw [cell_of_row _ _ _ _ _ _ hN];rfl
    have HTW:Hid (Tk w1 (w2.alloc (.cells #[.int .i64 0,.int .i64 0] 224)) b 0 s a1 0 a2 e2 [v2]∧w1.heap.size≤w2.heap.size∧w2.heap.size<(w2.alloc (.cells #[.int .i64 0,.int .i64 0] 224)).heap.size∧∀i,(w2.alloc (.cells #[.int .i64 0,.int .i64 0] 224)).frozen? ⟨w2.heap.size,i,none⟩=false):=
     ⟨⟨T2.rd.below B3 (Nat.lt_of_lt_of_le hb1.out T2.only.size),(((qJ.refl b 0 3 w1).drew).trans T2.only).alloc (Nat.lt_of_lt_of_le hb1.out T2.only.size) _,T2.sound,T2.full⟩,T2.only.size,by simp,fun i=>frozen_of_row _ _ _ _ _ hN⟩
    rw [hH] at g0 g1 HTW⊢
    clear hN B3 T2
    generalize w2.alloc (.cells #[.int .i64 0,.int .i64 0] 224)=w3 at*
    have f0:=HTW.out.2.2.2 0
    have f1:=HTW.out.2.2.2 1
    refine hK.out _ _ ⟨x1,x2⟩ (fun hHeld=>?_)
    clear hK K hH
    have hH2:=HTW.out.2.1
    try simp only [Act.put,sA,sB,sC,sD,sE,sF]
    have hHb:H≠b:=by have:=hb1.out;omega
    have hHc:H≠c:=by have:=HC1.out.lt;omega
    have HPW:=qA (bU (v:= .int .i64 (L:Int)) (v':= .int .i64 (N:Int)) HTW.out.1 HTW.out.2.1 hHb HTW.out.2.2.1 g0 g1 HTW.out.2.2.2)
    have k1:((w3.setCell ⟨H,0,none⟩ (.int .i64 (L:Int))).setCell ⟨H,1,none⟩ (.int .i64 (N:Int))).cell? ⟨c,1,none⟩=some (.int .i64 (L:Int)):=by rw [jI _ _ _ _ _ _ hHc,jI _ _ _ _ _ _ hHc];exact x1
    have k2:((w3.setCell ⟨H,0,none⟩ (.int .i64 (L:Int))).setCell ⟨H,1,none⟩ (.int .i64 (N:Int))).cell? ⟨c,2,none⟩=some (.int .i64 (N:Int)):=by rw [jI _ _ _ _ _ _ hHc,jI _ _ _ _ _ _ hHc];exact x2
    refine wpAnyH_ready (rs:=[7]) (by kernel_rfl) (by simp) ?_
    refine AllReadyH.cons rfl (fun K hK=>?_) AllReadyH.nil
    go_simp
    refine hK.out _ _ ⟨k1,k2⟩ (fun hHeld=>?_)
    clear hK K
    try simp only [Act.put,sA,sB,sC,sD,sE,sF]
    refine wpAnyH_take (i:=8) (v:=?_) rfl (by kernel_rfl) (by kernel_rfl) (by kernel_rfl) (fun _ _ _ h=>h) (Or.inl ⟨by rfl,?_⟩) hHeld ?_
    rotate_left
    ·(intro wq hSw;(try dsimp only at hSw);(try obtain ⟨s0,s1⟩:=hSw);(go_simp<;>with_reducible rfl))
    try simp only [Act.put,sA,sB,sC,sD,sE,sF]
    refine wpAnyH_done (by kernel_rfl) ?_ _
    go_wp2_with fail
    go_meet
    case rel=>exact ⟨H,v2,a2,e2,rfl,rfl,HPW.out.1,hv2,HTW.out.2.1,HPW.out.2⟩
   ·go_simp
    obtain ⟨H,hH⟩:∃H,w1.heap.size=H:=⟨_,rfl⟩
    have hN:(w1.alloc (.cells #[.int .i64 0,.int .i64 0] 224)).drew.heap[w1.heap.size]?=some (.cells #[.int .i64 0,.int .i64 0] 224 (0,0)):=heap_alloc_new w1 (.cells #[.int .i64 0,.int .i64 0] 224)
    have B3:Below w1.heap.size w1 (w1.alloc (.cells #[.int .i64 0,.int .i64 0] 224)).drew:=((Below.refl _ _).alloc (Nat.le_refl _) _).drew
    have hcs:c<w1.heap.size:=HC1.out.lt
    have y1:(w1.alloc (.cells #[.int .i64 0,.int .i64 0] 224)).drew.cell? ⟨c,1,none⟩=some (.int .i64 (L:Int)):=by rw [B3.cell (p:=⟨c,1,none⟩) hcs];exact c1
    have y2:(w1.alloc (.cells #[.int .i64 0,.int .i64 0] 224)).drew.cell? ⟨c,2,none⟩=some (.int .i64 (N:Int)):=by rw [B3.cell (p:=⟨c,2,none⟩) hcs];exact c2
    have R3:Rd (w1.alloc (.cells #[.int .i64 0,.int .i64 0] 224)).drew b 0 s a1 0:=HT1.out.rd.below B3 hb1.out
    have O3:qJ b 0 3 w1 (w1.alloc (.cells #[.int .i64 0,.int .i64 0] 224)).drew:=((qJ.refl b 0 3 w1).alloc hb1.out _).drew
    have hs3:w1.heap.size<(w1.alloc (.cells #[.int .i64 0,.int .i64 0] 224)).drew.heap.size:=qB hN
    rw [hH] at hN hs3⊢
    generalize (w1.alloc (.cells #[.int .i64 0,.int .i64 0] 224)).drew=wa at*
    refine hK.out _ _ ⟨y1,y2⟩ (fun hHeld=>?_)
    clear hK K
    try simp only [Act.put,sA,sB,sC,sD,sE,sF]
    refine wpAnyH_ready (rs:=[5]) (by kernel_rfl) (by simp) ?_
    refine AllReadyH.cons rfl (fun K hK=>?_) AllReadyH.nil
    go_simp
    refine (dW b 0 s a1 0 wa R3).mono ?_
    rintro e w3 ⟨v2,a2,e2,rfl,T2,hv2⟩
    have hca:c<wa.heap.size:=Nat.lt_of_lt_of_le hcs O3.size
    have hHb0:H≠b:=by have:=hb1.out;omega
    have x1:w3.cell? ⟨c,1,none⟩=some (.int .i64 (L:Int)):=by rw [World.cell?_of_block (T2.only.block c hca hbc)];exact y1
    have x2:w3.cell? ⟨c,2,none⟩=some (.int .i64 (N:Int)):=by rw [World.cell?_of_block (T2.only.block c hca hbc)];exact y2
    have eb:=T2.only.block H hs3 hHb0
    have g0:w3.cell? ⟨H,0,none⟩=some (.int .i64 0):=by rw [World.cell?_of_block eb,cell_of_row _ _ _ _ _ _ hN];rfl
    have g1:w3.cell? ⟨H,1,none⟩=some (.int .i64 0):=by rw [World.cell?_of_block eb,cell_of_row _ _ _ _ _ _ hN];rfl
    have HTW:Hid (Tk w1 w3 b 0 s a1 0 a2 e2 [v2]∧w1.heap.size≤H∧H<w3.heap.size∧∀i,w3.frozen? ⟨H,i,none⟩=false):=
     ⟨⟨T2.rd,O3.trans T2.only,T2.sound,T2.full⟩,Nat.le_of_eq hH,Nat.lt_of_lt_of_le hs3 T2.only.size,fun i=>by rw [World.frozen?_of_block (w:=wa) (w':=w3) (a:=⟨H,i,none⟩) eb];exact frozen_of_row _ _ _ _ _ hN⟩
    have f0:=HTW.out.2.2.2 0
    have f1:=HTW.out.2.2.2 1
    clear T2 hN eb R3 O3 B3
    go_wp2_with fail
    refine hK.out _ _ ⟨x1,x2⟩ (fun hHeld=>?_)
    clear hK K hs3 hHb0 hH
    have hH2:=HTW.out.2.1
    try simp only [Act.put,sA,sB,sC,sD,sE,sF]
    have hHb:H≠b:=by have:=hb1.out;omega
    have hHc:H≠c:=by have:=HC1.out.lt;omega
    have HPW:=qA (bU (v:= .int .i64 (L:Int)) (v':= .int .i64 (N:Int)) HTW.out.1 HTW.out.2.1 hHb HTW.out.2.2.1 g0 g1 HTW.out.2.2.2)
    have k1:((w3.setCell ⟨H,0,none⟩ (.int .i64 (L:Int))).setCell ⟨H,1,none⟩ (.int .i64 (N:Int))).cell? ⟨c,1,none⟩=some (.int .i64 (L:Int)):=by rw [jI _ _ _ _ _ _ hHc,jI _ _ _ _ _ _ hHc];exact x1
    have k2:((w3.setCell ⟨H,0,none⟩ (.int .i64 (L:Int))).setCell ⟨H,1,none⟩ (.int .i64 (N:Int))).cell? ⟨c,2,none⟩=some (.int .i64 (N:Int)):=by rw [jI _ _ _ _ _ _ hHc,jI _ _ _ _ _ _ hHc];exact x2
    refine wpAnyH_ready (rs:=[7]) (by kernel_rfl) (by simp) ?_
    refine AllReadyH.cons rfl (fun K hK=>?_) AllReadyH.nil
    go_simp
    refine hK.out _ _ ⟨k1,k2⟩ (fun hHeld=>?_)
    clear hK K
    try simp only [Act.put,sA,sB,sC,sD,sE,sF]
    refine wpAnyH_take (i:=8) (v:=?_) rfl (by kernel_rfl) (by kernel_rfl) (by kernel_rfl) (fun _ _ _ h=>h) (Or.inl ⟨by rfl,?_⟩) hHeld ?_
    rotate_left
    ·(intro wq hSw;(try dsimp only at hSw);(try obtain ⟨s0,s1⟩:=hSw);(go_simp<;>with_reducible rfl))
    try simp only [Act.put,sA,sB,sC,sD,sE,sF]
    refine wpAnyH_done (by kernel_rfl) ?_ _
    go_wp2_with fail
    go_meet
    case rel=>exact ⟨H,v2,a2,e2,rfl,rfl,HPW.out.1,hv2,HTW.out.2.1,HPW.out.2⟩
  case rest=>
   obtain ⟨H,v2,a2,e2,rfl,rfl,HI⟩:=hcut
   have hcH:c<w1.heap.size:=HC1.out.lt
   have HH:Hid (H<wc.heap.size∧H≠b∧H≠c):=⟨HI.out.2.2.2.1,by have:=HI.out.2.2.1;have:=hb1.out;omega,by have:=HI.out.2.2.1;omega⟩
   have T12:=HT1.out.trans ha.out HI.out.1
   have d0:wc.cell? ⟨H,0,none⟩=some (.int .i64 (L:Int)):=HI.out.2.2.2.2.1
   have d1:wc.cell? ⟨H,1,none⟩=some (.int .i64 (N:Int)):=HI.out.2.2.2.2.2.1
   have HFZ:=qA HI.out.2.2.2.2.2.2
   have HV2:=qA HI.out.2.1
   have HR0:Hid (∃r,(rb s).drop a=true::r):=⟨_,take_eq_drop' _ _ _ _ (HT1.out.sound rfl).2⟩
   have HHw:Hid (w.heap.size≤H):=Nat.le_trans HT1.out.only.size HI.out.2.2.1
   clear HI hcH c1 c2 HR1 HR2 HC1 HT1 hb1
   cases v2 with
   |false=>
    have HTv:Hid (Tk w wc b 0 s a 0 a2 e2 ([true]++[false])):=T12
    have HT12:=qA T12
    clear T12
    by_cases hN0:N=0
    ·subst hN0
     go_wp2_with fail
     refine (kF L 0 wc HL.out).mono ?_
     rintro e w4 ⟨rfl,B4⟩
     have HB4:=qA B4
     clear B4
     go_wp2_with fail
     go_ret
     have T4:=HTv.out.more64 HB4.out
     refine ⟨false,0,a2,e2,rfl,T4.rd,jB.ofB T4.only,by omega,fun h=>(by cases h),fun _ y r hy hr=>?_⟩
     exfalso
     obtain ⟨r1,hr1⟩:=HR0.out
     obtain ⟨h1,h2,h3⟩:=xI hr1 HT12.out ha.out hr
     have hs:sut 64 6 L 0 y:=Classical.not_not.1 (fun hn=>by have:=h3.2 hn;cases this)
     exact absurd hs.1 (by omega)
    have HWn:Hid (L+N≤64∧0<N):=⟨HL.out,by omega⟩
    have HK:Hid (∀y r,y<18446744073709551616→(rb s).drop a=xb 64 6 L N y++r→y≠0∧sut 64 6 L N y∧∀(v a5:Nat) (e5:Int) (w6:World),v<2^N→Tk w w6 b 0 s a 0 a5 e5 ([true]++[false]++bitsOf v N)→e5=0∧v*2^(64-L-N)=y):=fun y r hy hr=>by
     obtain ⟨r1,hr1⟩:=HR0.out
     obtain ⟨h1,h2,h3⟩:=xI hr1 HT12.out ha.out hr
     have hs:sut 64 6 L N y:=Classical.not_not.1 (fun hn=>by have:=h3.2 hn;cases this)
     exact ⟨h2,hs,fun v a5 e5 w6 hv T=>qDO T ha.out hy HL.out hv h2 hs hr⟩
    obtain ⟨wv,hwv⟩:∃wv,wv=wc:=⟨_,rfl⟩
    obtain ⟨aq,haq⟩:∃aq,aq=a2:=⟨_,rfl⟩
    obtain ⟨eq,heq⟩:∃eq,eq=e2:=⟨_,rfl⟩
    rw [←hwv,←haq,←heq] at HTv
    rw [←hwv] at d0 d1 HH⊢
    clear hwv
    obtain ⟨hHs,hHb,hHc⟩:H<wv.heap.size∧H≠b∧H≠c:=HH.out
    have HSt:Hid (∀w,Calls Tryz.prog 208 #[.agg #[.int .i64 (L:Int),.int .i64 (N:Int)]] w fun e w'=>e= .returned (.bool true)∧Below w.heap.size w w'):=fun w=>by
     have:=kF L N w HWn.out.1
     rw [show decide (0<N)=true from decide_eq_true HWn.out.2] at this
     exact this
    go_wp2_with fail
    refine (HSt.out _).mono ?_
    rintro e w4 ⟨rfl,B4⟩
    have T4:Tk w w4 b 0 s a 0 aq eq ([true]++[false]):=HTv.out.more64 B4
    have d0:w4.cell? ⟨H,0,none⟩=some (.int .i64 (L:Int)):=by rw [B4.cell (p:=⟨H,0,none⟩) hHs];exact d0
    have d1:w4.cell? ⟨H,1,none⟩=some (.int .i64 (N:Int)):=by rw [B4.cell (p:=⟨H,1,none⟩) hHs];exact d1
    have hHs:H<w4.heap.size:=Nat.lt_of_lt_of_le hHs B4.size
    have HT4:=qA T4
    clear B4 T4 HTv HSt
    go_wp2_with fail
    obtain ⟨sb,hsb⟩:∃sb,vR L N=sb:=⟨_,rfl⟩
    have sbW:sb≤64:=by rw [←hsb];unfold vR;omega
    have HBH:Hid (∀w,Calls Tryz.prog 209 #[.agg #[.int .i64 (L:Int),.int .i64 (N:Int)]] w fun e w'=>e= .returned (.int .i64 (sb:Int))∧Below w.heap.size w w'):=fun w=>by rw [←hsb];exact zO L N w HWn.out.1
    have HSB:Hid (sb=64-L-N):=by rw [←hsb];rfl
    have hN:N≤64:=by have:=HWn.out.1;omega
    clear hsb
    have HR4:Hid (Rd w4.drew b 0 s aq eq):=HT4.out.rd.below (w':=w4.drew) (B:=w4.heap.size) ⟨rfl,rfl,rfl,Nat.le_refl _,fun _ _=>rfl⟩ (block_lt_of_cell HT4.out.rd.text)
    go_region_held3 (fun w'=>w'.cell? ⟨H,0,none⟩=some (.int .i64 (L:Int))∧w'.cell? ⟨H,1,none⟩=some (.int .i64 (N:Int))) (first|exact ⟨k0,k1⟩|exact ⟨d0,d1⟩)
     (first|(go_at_call 209;go_must (refine (HBH.out _).mono ?_);rintro _ w6 ⟨rfl,B6⟩;(have k0:w6.cell? ⟨H,0,none⟩=some (.int .i64 (L:Int)):=by rw [B6.cell (p:=⟨H,0,none⟩) hH5.out];exact k0);(have k1:w6.cell? ⟨H,1,none⟩=some (.int .i64 (N:Int)):=by rw [B6.cell (p:=⟨H,1,none⟩) hH5.out];exact k1))|(go_at_call 76;go_must (refine (kT b 0 s aq N eq _ HR4.out hN).mono ?_);rintro _ w5 ⟨v,a5,e5,rfl,hv,T5⟩;(have k0:w5.cell? ⟨H,0,none⟩=some (.int .i64 (L:Int)):=by rw [World.cell?_of_block (T5.only.block H hHs hHb)];exact d0);(have k1:w5.cell? ⟨H,1,none⟩=some (.int .i64 (N:Int)):=by rw [World.cell?_of_block (T5.only.block H hHs hHb)];exact d1);(have hH5:Hid (H<w5.heap.size):=Nat.lt_of_lt_of_le hHs T5.only.size);(have HV:=qA hv);(clear hv);(have v1:IntKind.u64.wrap (v:Int)=(v:Int):=rA HV.out (by have:=HWn.out.1;omega));(obtain ⟨x,hx⟩:∃x:Nat,v*2^sb=x:=⟨_,rfl⟩);(have hxx:(v:Int)*2^sb=(x:Int):=by rw [←hx];simp);(have hxM:x<18446744073709551616:=by rw [←hx,HSB.out];exact (vD L N v HWn.out.1 HV.out).1);(have v2:IntKind.u64.wrap (x:Int)=(x:Int):=vK hxM);(have HXM:=qA hxM);(have HX:=qA hx);clear hx hxM))
    have HT6:Hid (Tk w w6 b 0 s a 0 a5 e5 ([true]++[false]++bitsOf v N)):=((HT4.out.more64 (w2:=w4.drew) ⟨rfl,rfl,rfl,Nat.le_refl _,fun _ _=>rfl⟩).trans ha.out T5).more64 B6
    have hH6:H<w6.heap.size:=Nat.lt_of_lt_of_le hH5.out B6.size
    have HC6:Hid (zD w6 c p L N):=HC.out.other HT6.out.only hbc
    have HB6:Hid (qT w6):=(jB.ofB (c:=c) HT6.out.only).tab HT.out hTb hTc
    clear T5 B6 HT4 HR4 HBH hH5 d0 d1
    by_cases hx0:x=0
    ·subst hx0
     go_wp2_with fail
     go_ret
     refine ⟨false,0,a5,e5,rfl,HT6.out.rd,jB.ofB HT6.out.only,by omega,fun h=>(by cases h),fun _ y r hy hr=>?_⟩
     exfalso
     obtain ⟨q1,q2,q3⟩:=HK.out y r hy hr
     have q4:=q3 v a5 e5 w6 HV.out HT6.out
     have q5:=HX.out
     rw [HSB.out] at q5
     exact q1 (q4.2.symm.trans q5)
    have x2:((x:Int)==0)=false:=by simp;omega
    have HX0:=qA hx0
    clear hx0
    go_wp2_with fail
    refine (pJ c p L N x w6 HC6.out HL.out HXM.out HX0.out HB6.out).mono ?_
    rintro e w7 ⟨l',n',own',rfl,B7,hP⟩
    have HPk:=qA hP
    clear hP
    have hN8:=heap_alloc_new w7 (.cells #[.int .i64 (l':Int),.int .i64 (n':Int)] 224)
    have B8:Below w6.heap.size w6 (w7.alloc (.cells #[.int .i64 (l':Int),.int .i64 (n':Int)] 224)):=B7.alloc B7.size _
    have HT8:Hid (Tk w (w7.alloc (.cells #[.int .i64 (l':Int),.int .i64 (n':Int)] 224)) b 0 s a 0 a5 e5 ([true]++[false]++bitsOf v N)∧zD (w7.alloc (.cells #[.int .i64 (l':Int),.int .i64 (n':Int)] 224)) c p L N):=⟨HT6.out.more64 B8,HC6.out.below B8 HC6.out.lt⟩
    have k0:(w7.alloc (.cells #[.int .i64 (l':Int),.int .i64 (n':Int)] 224)).cell? ⟨H,0,none⟩=some (.int .i64 (L:Int)):=by rw [B8.cell (p:=⟨H,0,none⟩) hH6];exact k0
    have k1:(w7.alloc (.cells #[.int .i64 (l':Int),.int .i64 (n':Int)] 224)).cell? ⟨H,1,none⟩=some (.int .i64 (N:Int)):=by rw [B8.cell (p:=⟨H,1,none⟩) hH6];exact k1
    have HK8:Hid ((w7.alloc (.cells #[.int .i64 (l':Int),.int .i64 (n':Int)] 224)).cell? ⟨w7.heap.size,0,none⟩=some (.int .i64 (l':Int))∧(w7.alloc (.cells #[.int .i64 (l':Int),.int .i64 (n':Int)] 224)).cell? ⟨w7.heap.size,1,none⟩=some (.int .i64 (n':Int))):=⟨by rw [cell_of_row _ _ _ _ _ _ hN8];rfl,by rw [cell_of_row _ _ _ _ _ _ hN8];rfl⟩
    clear hN8 B8 HT6 HC6 HB6 hH6
    go_upto_region 12 with fail
    generalize w7.alloc (.cells #[.int .i64 (l':Int),.int .i64 (n':Int)] 224)=w8 at*
    obtain ⟨m0,m1⟩:=HK8.out
    have HNG:Hid (¬(L=l'∧N=n'∧own'=false)→∀y r,y<18446744073709551616→(rb s).drop a=xb 64 6 L N y++r→False):=fun hne y r hy hr=>by
     obtain ⟨q1,q2,q3⟩:=HK.out y r hy hr
     have q4:=q3 v a5 e5 _ HV.out HT8.out.1
     have q5:x=y:=by rw [←HX.out,HSB.out];exact q4.2
     subst q5
     exact hne (HPk.out.elim (fun h=>⟨h.2.2.1.symm,h.2.2.2.symm,h.1⟩) (fun h=>absurd q2 h.2.1))
    have HBAD:Hid (¬(L=l'∧N=n'∧own'=false)→nI w b c s a 0 p L N (.returned (.bool false)) w8):=fun hne=>
     ⟨false,0,a5,e5,rfl,HT8.out.1.rd,jB.ofB HT8.out.1.only,by omega,fun h=>(by cases h),fun _ y r hy hr=>(HNG.out hne y r hy hr).elim⟩
    by_cases hE1:L=l'
    ·by_cases hE2:N=n'
     ·by_cases hE3:own'=false
      ·have c0:=HT8.out.2.ahead
       have c1:=HT8.out.2.lead
       have c2:=HT8.out.2.len
       have f0:=HT8.out.2.fz 0
       have f1:=HT8.out.2.fz 1
       have f2:=HT8.out.2.fz 2
       subst hE1
       subst hE2
       subst hE3
       obtain ⟨q,hq⟩:∃q:Nat,q=p^^^x:=⟨_,rfl⟩
       have q1:bits BinOp.xor IntKind.u64 (p:Int) (x:Int)=(q:Int):=by rw [hq];exact u64_xor_nat p x HP.out HXM.out
       have HQ:=qA hq
       clear hq
       go_wp2_with fail
       go_ret
       have O9:qJ c 0 3 w8 (((w8.setCell ⟨c,0,none⟩ (.int .u64 (q:Int))).setCell ⟨c,1,none⟩ (.int .i64 (L:Int))).setCell ⟨c,2,none⟩ (.int .i64 (N:Int))):=(((qJ.refl c 0 3 w8).setCell 0 (by omega) (by omega) _).setCell 1 (by omega) (by omega) _).setCell 2 (by omega) (by omega) _
       have hbc':b≠c:=fun h=>hbc h.symm
       obtain ⟨z1,z2⟩:nxt 64 6 (L,N) x=(L,N)∧xb 64 6 L N x=[true]++[false]++bitsOf v N:=by
        rcases HPk.out with ⟨_,h1,_⟩|⟨h,_⟩
        ·refine ⟨by unfold nxt;rw [if_pos (.inr h1)],?_⟩
         rw [xb_old _ _ _ _ _ HX0.out h1,←HX.out,HSB.out,(vD L N v HWn.out.1 HV.out).2];rfl
        ·cases h
       refine ⟨true,x,a5,e5,rfl,HT8.out.1.rd.other O9 hbc',(jB.ofB HT8.out.1.only).trans (jB.ofC O9),HXM.out,fun _=>⟨?_,fun he=>?_⟩,fun _ y r hy hr=>?_⟩
       ·rw [z1,←HQ.out];exact (HT8.out.2.setAhead q).setOld L N
       ·rw [z2];exact HT8.out.1.sound he
       ·obtain ⟨q1,q2,q3⟩:=HK.out y r hy hr
        have q4:=q3 v a5 e5 _ HV.out HT8.out.1
        exact ⟨rfl,by rw [←HX.out,HSB.out];exact q4.2,q4.1⟩
      ·obtain rfl:own'=true:=by cases own'<;>simp at hE3⊢
       subst hE1
       subst hE2
       go_wp2_with fail
       go_ret
       exact HBAD.out (fun h=>hE3 h.2.2)
     ·have b2:((N:Int)==(n':Int))=false:=by simp;omega
      subst hE1
      go_wp2_with fail
      go_ret
      exact HBAD.out (fun h=>hE2 h.2.1)
    ·have b1:((L:Int)==(l':Int))=false:=by simp;omega
     go_wp2_with fail
     go_ret
     exact HBAD.out (fun h=>hE1 h.1)
   |true=>
    obtain rfl:e2=0:=HV2.out rfl
    have HT12:=qA T12
    have f0:=HFZ.out 0
    have f1:=HFZ.out 1
    clear T12
    go_wp2_with fail
    refine (mL b s a2 0 wc HT12.out.rd).mono ?_
    rintro e w3 ⟨l,n,NN,a3,e3,rfl,hN,hl,hn,T3⟩
    obtain ⟨hHs,hHb,hHc⟩:H<wc.heap.size∧H≠b∧H≠c:=HH.out
    have eb:=T3.only.block H hHs hHb
    have d0:w3.cell? ⟨H,0,none⟩=some (.int .i64 (L:Int)):=by rw [World.cell?_of_block eb];exact d0
    have d1:w3.cell? ⟨H,1,none⟩=some (.int .i64 (N:Int)):=by rw [World.cell?_of_block eb];exact d1
    have hfz:∀i,w3.frozen? ⟨H,i,none⟩=false:=fun i=>by rw [World.frozen?_of_block (w:=wc) (w':=w3) (a:=⟨H,i,none⟩) eb];exact HFZ.out i
    have f0:=hfz 0
    have f1:=hfz 1
    have HPW:=qA (bU (v:= .int .i64 (l:Int)) (v':= .int .i64 (NN:Int)) (HT12.out.trans ha.out T3) HHw.out hHb (Nat.lt_of_lt_of_le hHs T3.only.size) d0 d1 hfz)
    have HLN:=qA (And.intro hN (And.intro hl hn))
    clear T3 eb hfz hN hl hn HH HFZ
    go_upto_region 6 with fail
    generalize (w3.setCell ⟨H,0,none⟩ (.int .i64 (l:Int))).setCell ⟨H,1,none⟩ (.int .i64 (NN:Int))=wv at*
    clear d0 d1 f0 f1 hHs
    obtain ⟨d0,d1⟩:wv.cell? ⟨H,0,none⟩=some (.int .i64 (l:Int))∧wv.cell? ⟨H,1,none⟩=some (.int .i64 (NN:Int)):=⟨HPW.out.2.2.1,HPW.out.2.2.2.1⟩
    have HH:Hid (H<wv.heap.size∧H≠b∧H≠c):=⟨HPW.out.2.1,hHb,hHc⟩
    have HTv:Hid (Tk w wv b 0 s a 0 a3 e3 ([true,true]++(bitsOf l 6++bitsOf n 6))):=HPW.out.1
    have HTv0:=qA HTv.out
    clear HPW hHb hHc
    by_cases hst:64<l+NN
    ·go_wp2_with fail
     refine (fZ l NN wv (by have:=HLN.out;omega) (by have:=HLN.out;omega) hst (by have:=HLN.out;omega)).mono ?_
     rintro e w4 ⟨rfl,B4⟩
     have HB4:=qA B4
     have HST:=qA hst
     clear B4 hst
     go_wp2_with fail
     go_ret
     have T4:=HTv.out.more64 HB4.out
     refine ⟨false,0,a3,e3,rfl,T4.rd,jB.ofB T4.only,by omega,fun h=>(by cases h),fun _ y r hy hr=>?_⟩
     exfalso
     obtain ⟨r1,hr1⟩:=HR0.out
     obtain ⟨h1,h2,h3⟩:=xI hr1 HT12.out ha.out hr
     have hs:¬sut 64 6 L N y:=h3.1 rfl
     obtain ⟨h4,h5,h6⟩:=dR HTv0.out ha.out hy HLN.out.2.1 HLN.out.2.2 h2 hs hr
     have q1:=bitLen_le y 64 hy
     have q2:wl y=bitLen y-tz y:=rfl
     have q3:=HLN.out.1
     have q4:=HST.out
     omega
    have HWn:Hid (l+NN≤64∧0<NN):=⟨by omega,by have:=HLN.out.1;omega⟩
    have HK:Hid (∀y r,y<18446744073709551616→(rb s).drop a=xb 64 6 L N y++r→y≠0∧(¬sut 64 6 L N y∧l=64-bitLen y∧NN=wl y)∧∀(v a5:Nat) (e5:Int) (w6:World),v<2^NN→Tk w w6 b 0 s a 0 a5 e5 ([true,true]++(bitsOf l 6++bitsOf n 6)++bitsOf v NN)→e5=0∧v*2^(64-l-NN)=y):=fun y r hy hr=>by
     obtain ⟨r1,hr1⟩:=HR0.out
     obtain ⟨h1,h2,h3⟩:=xI hr1 HT12.out ha.out hr
     have hs:¬sut 64 6 L N y:=h3.1 rfl
     obtain ⟨h4,h5,h6⟩:=dR HTv0.out ha.out hy HLN.out.2.1 HLN.out.2.2 h2 hs hr
     exact ⟨h2,⟨hs,h5,HLN.out.1.symm.trans h6⟩,fun v a5 e5 w6 hv T=>qDS T ha.out hy hv h2 hs hr h5 h6 HLN.out.1.symm⟩
    obtain ⟨aq,haq⟩:∃aq,aq=a3:=⟨_,rfl⟩
    obtain ⟨eq,heq⟩:∃eq,eq=e3:=⟨_,rfl⟩
    rw [←haq,←heq] at HTv
    clear hst
    obtain ⟨hHs,hHb,hHc⟩:H<wv.heap.size∧H≠b∧H≠c:=HH.out
    have HSt:Hid (∀w,Calls Tryz.prog 208 #[.agg #[.int .i64 (l:Int),.int .i64 (NN:Int)]] w fun e w'=>e= .returned (.bool true)∧Below w.heap.size w w'):=fun w=>by
     have:=kF l NN w HWn.out.1
     rw [show decide (0<NN)=true from decide_eq_true HWn.out.2] at this
     exact this
    go_wp2_with fail
    refine (HSt.out _).mono ?_
    rintro e w4 ⟨rfl,B4⟩
    have T4:Tk w w4 b 0 s a 0 aq eq ([true,true]++(bitsOf l 6++bitsOf n 6)):=HTv.out.more64 B4
    have d0:w4.cell? ⟨H,0,none⟩=some (.int .i64 (l:Int)):=by rw [B4.cell (p:=⟨H,0,none⟩) hHs];exact d0
    have d1:w4.cell? ⟨H,1,none⟩=some (.int .i64 (NN:Int)):=by rw [B4.cell (p:=⟨H,1,none⟩) hHs];exact d1
    have hHs:H<w4.heap.size:=Nat.lt_of_lt_of_le hHs B4.size
    have HT4:=qA T4
    clear B4 T4 HTv HSt
    go_wp2_with fail
    obtain ⟨sb,hsb⟩:∃sb,vR l NN=sb:=⟨_,rfl⟩
    have sbW:sb≤64:=by rw [←hsb];unfold vR;omega
    have HBH:Hid (∀w,Calls Tryz.prog 209 #[.agg #[.int .i64 (l:Int),.int .i64 (NN:Int)]] w fun e w'=>e= .returned (.int .i64 (sb:Int))∧Below w.heap.size w w'):=fun w=>by rw [←hsb];exact zO l NN w HWn.out.1
    have HSB:Hid (sb=64-l-NN):=by rw [←hsb];rfl
    have hNN:NN≤64:=by have:=HWn.out.1;omega
    clear hsb
    have HR4:Hid (Rd w4.drew b 0 s aq eq):=HT4.out.rd.below (w':=w4.drew) (B:=w4.heap.size) ⟨rfl,rfl,rfl,Nat.le_refl _,fun _ _=>rfl⟩ (block_lt_of_cell HT4.out.rd.text)
    go_region_held3 (fun w'=>w'.cell? ⟨H,0,none⟩=some (.int .i64 (l:Int))∧w'.cell? ⟨H,1,none⟩=some (.int .i64 (NN:Int))) (first|exact ⟨k0,k1⟩|exact ⟨d0,d1⟩)
     (first|(go_at_call 209;go_must (refine (HBH.out _).mono ?_);rintro _ w6 ⟨rfl,B6⟩;(have k0:w6.cell? ⟨H,0,none⟩=some (.int .i64 (l:Int)):=by rw [B6.cell (p:=⟨H,0,none⟩) hH5.out];exact k0);(have k1:w6.cell? ⟨H,1,none⟩=some (.int .i64 (NN:Int)):=by rw [B6.cell (p:=⟨H,1,none⟩) hH5.out];exact k1))|(go_at_call 76;go_must (refine (kT b 0 s aq NN eq _ HR4.out hNN).mono ?_);rintro _ w5 ⟨v,a5,e5,rfl,hv,T5⟩;(have k0:w5.cell? ⟨H,0,none⟩=some (.int .i64 (l:Int)):=by rw [World.cell?_of_block (T5.only.block H hHs hHb)];exact d0);(have k1:w5.cell? ⟨H,1,none⟩=some (.int .i64 (NN:Int)):=by rw [World.cell?_of_block (T5.only.block H hHs hHb)];exact d1);(have hH5:Hid (H<w5.heap.size):=Nat.lt_of_lt_of_le hHs T5.only.size);(have HV:=qA hv);(clear hv);(have v1:IntKind.u64.wrap (v:Int)=(v:Int):=rA HV.out (by have:=HWn.out.1;omega));(obtain ⟨x,hx⟩:∃x:Nat,v*2^sb=x:=⟨_,rfl⟩);(have hxx:(v:Int)*2^sb=(x:Int):=by rw [←hx];simp);(have hxM:x<18446744073709551616:=by rw [←hx,HSB.out];exact (vD l NN v HWn.out.1 HV.out).1);(have v2:IntKind.u64.wrap (x:Int)=(x:Int):=vK hxM);(have HXM:=qA hxM);(have HX:=qA hx);clear hx hxM))
    have HT6:Hid (Tk w w6 b 0 s a 0 a5 e5 ([true,true]++(bitsOf l 6++bitsOf n 6)++bitsOf v NN)):=((HT4.out.more64 (w2:=w4.drew) ⟨rfl,rfl,rfl,Nat.le_refl _,fun _ _=>rfl⟩).trans ha.out T5).more64 B6
    have hH6:H<w6.heap.size:=Nat.lt_of_lt_of_le hH5.out B6.size
    have HC6:Hid (zD w6 c p L N):=HC.out.other HT6.out.only hbc
    have HB6:Hid (qT w6):=(jB.ofB (c:=c) HT6.out.only).tab HT.out hTb hTc
    clear T5 B6 HT4 HR4 HBH hH5 d0 d1
    by_cases hx0:x=0
    ·subst hx0
     go_wp2_with fail
     go_ret
     refine ⟨false,0,a5,e5,rfl,HT6.out.rd,jB.ofB HT6.out.only,by omega,fun h=>(by cases h),fun _ y r hy hr=>?_⟩
     exfalso
     obtain ⟨q1,q2,q3⟩:=HK.out y r hy hr
     have q4:=q3 v a5 e5 w6 HV.out HT6.out
     have q5:=HX.out
     rw [HSB.out] at q5
     exact q1 (q4.2.symm.trans q5)
    have x2:((x:Int)==0)=false:=by simp;omega
    have HX0:=qA hx0
    clear hx0
    go_wp2_with fail
    refine (pJ c p L N x w6 HC6.out HL.out HXM.out HX0.out HB6.out).mono ?_
    rintro e w7 ⟨l',n',own',rfl,B7,hP⟩
    have HPk:=qA hP
    clear hP
    have hN8:=heap_alloc_new w7 (.cells #[.int .i64 (l':Int),.int .i64 (n':Int)] 224)
    have B8:Below w6.heap.size w6 (w7.alloc (.cells #[.int .i64 (l':Int),.int .i64 (n':Int)] 224)):=B7.alloc B7.size _
    have HT8:Hid (Tk w (w7.alloc (.cells #[.int .i64 (l':Int),.int .i64 (n':Int)] 224)) b 0 s a 0 a5 e5 ([true,true]++(bitsOf l 6++bitsOf n 6)++bitsOf v NN)∧zD (w7.alloc (.cells #[.int .i64 (l':Int),.int .i64 (n':Int)] 224)) c p L N):=⟨HT6.out.more64 B8,HC6.out.below B8 HC6.out.lt⟩
    have k0:(w7.alloc (.cells #[.int .i64 (l':Int),.int .i64 (n':Int)] 224)).cell? ⟨H,0,none⟩=some (.int .i64 (l:Int)):=by rw [B8.cell (p:=⟨H,0,none⟩) hH6];exact k0
    have k1:(w7.alloc (.cells #[.int .i64 (l':Int),.int .i64 (n':Int)] 224)).cell? ⟨H,1,none⟩=some (.int .i64 (NN:Int)):=by rw [B8.cell (p:=⟨H,1,none⟩) hH6];exact k1
    have HK8:Hid ((w7.alloc (.cells #[.int .i64 (l':Int),.int .i64 (n':Int)] 224)).cell? ⟨w7.heap.size,0,none⟩=some (.int .i64 (l':Int))∧(w7.alloc (.cells #[.int .i64 (l':Int),.int .i64 (n':Int)] 224)).cell? ⟨w7.heap.size,1,none⟩=some (.int .i64 (n':Int))):=⟨by rw [cell_of_row _ _ _ _ _ _ hN8];rfl,by rw [cell_of_row _ _ _ _ _ _ hN8];rfl⟩
    clear hN8 B8 HT6 HC6 HB6 hH6
    go_upto_region 12 with fail
    generalize w7.alloc (.cells #[.int .i64 (l':Int),.int .i64 (n':Int)] 224)=w8 at*
    obtain ⟨m0,m1⟩:=HK8.out
    have HNG:Hid (¬(l=l'∧NN=n'∧own'=true)→∀y r,y<18446744073709551616→(rb s).drop a=xb 64 6 L N y++r→False):=fun hne y r hy hr=>by
     obtain ⟨q1,q2,q3⟩:=HK.out y r hy hr
     have q4:=q3 v a5 e5 _ HV.out HT8.out.1
     have q5:x=y:=by rw [←HX.out,HSB.out];exact q4.2
     subst q5
     exact hne (HPk.out.elim (fun h=>absurd h.2.1 q2.1) (fun h=>⟨by rw [h.2.2.1];exact q2.2.1,by rw [h.2.2.2];exact q2.2.2,h.1⟩))
    have HBAD:Hid (¬(l=l'∧NN=n'∧own'=true)→nI w b c s a 0 p L N (.returned (.bool false)) w8):=fun hne=>
     ⟨false,0,a5,e5,rfl,HT8.out.1.rd,jB.ofB HT8.out.1.only,by omega,fun h=>(by cases h),fun _ y r hy hr=>(HNG.out hne y r hy hr).elim⟩
    by_cases hE1:l=l'
    ·by_cases hE2:NN=n'
     ·by_cases hE3:own'=true
      ·have c0:=HT8.out.2.ahead
       have c1:=HT8.out.2.lead
       have c2:=HT8.out.2.len
       have f0:=HT8.out.2.fz 0
       have f1:=HT8.out.2.fz 1
       have f2:=HT8.out.2.fz 2
       subst hE1
       subst hE2
       subst hE3
       obtain ⟨q,hq⟩:∃q:Nat,q=p^^^x:=⟨_,rfl⟩
       have q1:bits BinOp.xor IntKind.u64 (p:Int) (x:Int)=(q:Int):=by rw [hq];exact u64_xor_nat p x HP.out HXM.out
       have HQ:=qA hq
       clear hq
       go_wp2_with fail
       go_ret
       have O9:qJ c 0 3 w8 (((w8.setCell ⟨c,0,none⟩ (.int .u64 (q:Int))).setCell ⟨c,1,none⟩ (.int .i64 (l:Int))).setCell ⟨c,2,none⟩ (.int .i64 (NN:Int))):=(((qJ.refl c 0 3 w8).setCell 0 (by omega) (by omega) _).setCell 1 (by omega) (by omega) _).setCell 2 (by omega) (by omega) _
       have hbc':b≠c:=fun h=>hbc h.symm
       obtain ⟨z1,z2⟩:nxt 64 6 (L,N) x=(l,NN)∧xb 64 6 L N x=[true,true]++(bitsOf l 6++bitsOf n 6)++bitsOf v NN:=by
        rcases HPk.out with ⟨h,_⟩|⟨_,h1,h2,h3⟩
        ·cases h
        ·have q1:=bitLen_le x 64 HXM.out
         have q2:=tz_lt x HX0.out (lt64 (W:=64) HXM.out (by omega))
         have q3:wl x=bitLen x-tz x:=rfl
         have q4:=HLN.out.1
         have q5:=HSB.out
         have q6:=HWn.out.1
         have q7:tz x=64-l-NN:=by omega
         refine ⟨by unfold nxt;rw [if_neg (fun h=>h.elim HX0.out h1),←h2,←h3],?_⟩
         rw [xb_new _ _ _ _ _ HX0.out h1,←h2,←h3,show NN-1=n from by omega,q7]
         have q8:x/2^(64-l-NN)=v:=by rw [←HX.out,HSB.out];exact (vD l NN v HWn.out.1 HV.out).2
         rw [q8];simp
       refine ⟨true,x,a5,e5,rfl,HT8.out.1.rd.other O9 hbc',(jB.ofB HT8.out.1.only).trans (jB.ofC O9),HXM.out,fun _=>⟨?_,fun he=>?_⟩,fun _ y r hy hr=>?_⟩
       ·rw [z1,←HQ.out];exact (HT8.out.2.setAhead q).setOld l NN
       ·rw [z2];exact HT8.out.1.sound he
       ·obtain ⟨q1,q2,q3⟩:=HK.out y r hy hr
        have q4:=q3 v a5 e5 _ HV.out HT8.out.1
        exact ⟨rfl,by rw [←HX.out,HSB.out];exact q4.2,q4.1⟩
      ·obtain rfl:own'=false:=by cases own'<;>simp at hE3⊢
       subst hE1
       subst hE2
       go_wp2_with fail
       go_ret
       exact HBAD.out (fun h=>hE3 h.2.2)
     ·have b2:((NN:Int)==(n':Int))=false:=by simp;omega
      subst hE1
      go_wp2_with fail
      go_ret
      exact HBAD.out (fun h=>hE2 h.2.1)
    ·have b1:((l:Int)==(l':Int))=false:=by simp;omega
     go_wp2_with fail
     go_ret
     exact HBAD.out (fun h=>hE1 h.1)
end Go.Proofs.YtkpmalfigmimaaaGreatDoor
