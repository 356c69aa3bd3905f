import Derived.Test.YtkpmalfigmimaaaGreatDoorZ0
import Derived.Test.YtkpmalfigmimaaaGreatDoorP1B32
set_option linter.unusedVariables false
set_option linter.unusedSimpArgs false
set_option maxRecDepth 100000
set_option maxHeartbeats 8000000
namespace Go.Proofs.YtkpmalfigmimaaaGreatDoor
open Go.RowKit
open M
def wH (L N l n:Nat) (w:World) (e:Ending) (w':World):Prop:=
 ∃v:Bool,e= .returned (.bool v)∧(v=true↔0<N∧L≤l∧32-L-N≤32-l-n∧N≤n+2*5)∧Below w.heap.size w w'
theorem qAM (w:World) (L N l n:Nat):((w.alloc (.cells #[.int .i64 (L:Int),.int .i64 (N:Int)] 215)).alloc (.cells #[.int .i64 (l:Int),.int .i64 (n:Int)] 215)).cell? ⟨w.heap.size,0,none⟩=some (.int .i64 (L:Int))∧
  ((w.alloc (.cells #[.int .i64 (L:Int),.int .i64 (N:Int)] 215)).alloc (.cells #[.int .i64 (l:Int),.int .i64 (n:Int)] 215)).cell? ⟨w.heap.size,1,none⟩=some (.int .i64 (N:Int))∧
  ((w.alloc (.cells #[.int .i64 (L:Int),.int .i64 (N:Int)] 215)).alloc (.cells #[.int .i64 (l:Int),.int .i64 (n:Int)] 215)).cell? ⟨w.heap.size+1,0,none⟩=some (.int .i64 (l:Int))∧
  ((w.alloc (.cells #[.int .i64 (L:Int),.int .i64 (N:Int)] 215)).alloc (.cells #[.int .i64 (l:Int),.int .i64 (n:Int)] 215)).cell? ⟨w.heap.size+1,1,none⟩=some (.int .i64 (n:Int))∧
  Below w.heap.size w ((w.alloc (.cells #[.int .i64 (L:Int),.int .i64 (N:Int)] 215)).alloc (.cells #[.int .i64 (l:Int),.int .i64 (n:Int)] 215)):=by
 have h1:=xG (heap_alloc_new w (.cells #[.int .i64 (L:Int),.int .i64 (N:Int)] 215)) (.cells #[.int .i64 (l:Int),.int .i64 (n:Int)] 215)
 have h2:=heap_alloc_new (w.alloc (.cells #[.int .i64 (L:Int),.int .i64 (N:Int)] 215)) (.cells #[.int .i64 (l:Int),.int .i64 (n:Int)] 215)
 rw [World.size_alloc] at h2
 exact ⟨by rw [cell_of_row _ _ _ _ _ _ h1];rfl,by rw [cell_of_row _ _ _ _ _ _ h1];rfl,by rw [cell_of_row _ _ _ _ _ _ h2];rfl,by rw [cell_of_row _ _ _ _ _ _ h2];rfl,((Below.refl _ w).alloc (Nat.le_refl _) _).alloc (by simp) _⟩
theorem qG6 (L N l n:Nat) (w:World) (h1:L+N≤32) (h2:l+n≤32) (c:¬(L≤l)):
  Calls Tryz.prog 220 #[dX L N,dX l n] w (wH L N l n w):=by
 have HNO:Hid (¬(0<N∧L≤l∧32-L-N≤32-l-n∧N≤n+2*5)):=fun h=>c h.2.1
 have cd:decide (L≤l)=false:=decide_eq_false c
 have HS:Hid (∀w,Calls Tryz.prog 199 #[.agg #[.int .i64 (L:Int),.int .i64 (N:Int)]] w fun e w'=>e= .returned (.bool (decide (0<N)))∧Below w.heap.size w w'):=fun w=>kE L N w h1
 have HB1:Hid (∀w,Calls Tryz.prog 200 #[.agg #[.int .i64 (L:Int),.int .i64 (N:Int)]] w fun e w'=>e= .returned (.int .i64 ((32-L-N:Nat):Int))∧Below w.heap.size w w'):=fun w=>jX L N (32-L-N) w (by omega)
 have HB2:Hid (∀w,Calls Tryz.prog 200 #[.agg #[.int .i64 (l:Int),.int .i64 (n:Int)]] w fun e w'=>e= .returned (.int .i64 ((32-l-n:Nat):Int))∧Below w.heap.size w w'):=fun w=>jX l n (32-l-n) w (by omega)
 have HM:=qA (qAM w L N l n)
 clear h1 h2 c
 unfold dX
 go_enter Tryz.func220,Tryz.ntmps220
 go_wp2_with fail
 generalize (w.alloc (.cells #[.int .i64 (L:Int),.int .i64 (N:Int)] 215)).alloc (.cells #[.int .i64 (l:Int),.int .i64 (n:Int)] 215)=W1 at*
 obtain ⟨c0,c1,c2,c3,B1⟩:=HM.out
 have HBW:Hid (Below w.heap.size w W1∧w.heap.size≤W1.heap.size):=⟨B1,B1.size⟩
 clear B1 HM
 obtain ⟨G,hG⟩:∃G,w.heap.size=G:=⟨_,rfl⟩
 rw [hG] at c0 c1 c2 c3 HBW⊢
 have HG:=qA hG
 clear hG
 refine wp_region_held_drew (S:=fun w'=>w'.cell? ⟨G,0,none⟩=some (.int .i64 (L:Int))∧w'.cell? ⟨G,1,none⟩=some (.int .i64 (N:Int))∧w'.cell? ⟨G+1,0,none⟩=some (.int .i64 (l:Int))∧w'.cell? ⟨G+1,1,none⟩=some (.int .i64 (n:Int))) (by kernel_rfl) ⟨c0,c1,c2,c3⟩ (fun hHeld=>?_)
 refine wpAnyH_take (i:=0) (v:=?_) rfl (by kernel_rfl) (by kernel_rfl) (by kernel_rfl) (fun _ _ _ h=>h) (Or.inl ⟨by rfl,?_⟩) hHeld ?_
 rotate_left
 ·(intro wq hSw;(try dsimp only at hSw);(try obtain ⟨s0,s1,s2,s3⟩:=hSw);(go_simp<;>with_reducible rfl))
 try simp only [Act.put,sA,sB,sC,sD,sE,sF]
 refine wpAnyH_take (i:=1) (v:=?_) rfl (by kernel_rfl) (by kernel_rfl) (by kernel_rfl) (fun _ _ _ h=>h) (Or.inl ⟨by rfl,?_⟩) hHeld ?_
 rotate_left
 ·(intro wq hSw;(try dsimp only at hSw);(try obtain ⟨s0,s1,s2,s3⟩:=hSw);(go_simp<;>with_reducible rfl))
 try simp only [Act.put,sA,sB,sC,sD,sE,sF]
 refine wpAnyH_take (i:=2) (v:=?_) rfl (by kernel_rfl) (by kernel_rfl) (by kernel_rfl) (fun _ _ _ h=>h) (Or.inl ⟨by rfl,?_⟩) hHeld ?_
 rotate_left
 ·(intro wq hSw;(try dsimp only at hSw);(try obtain ⟨s0,s1,s2,s3⟩:=hSw);(go_simp<;>with_reducible rfl))
 try simp only [Act.put,sA,sB,sC,sD,sE,sF]
 refine wpAnyH_take (i:=3) (v:=?_) rfl (by kernel_rfl) (by kernel_rfl) (by kernel_rfl) (fun _ _ _ h=>h) (Or.inl ⟨by rfl,?_⟩) hHeld ?_
 rotate_left
 ·(intro wq hSw;(try dsimp only at hSw);(try obtain ⟨s0,s1,s2,s3⟩:=hSw);(go_simp<;>with_reducible rfl))
 try simp only [Act.put,sA,sB,sC,sD,sE,sF]
 refine wpAnyH_take (i:=4) (v:=?_) rfl (by kernel_rfl) (by kernel_rfl) (by kernel_rfl) (fun _ _ _ h=>h) (Or.inl ⟨by rfl,?_⟩) hHeld ?_
 rotate_left
 ·(intro wq hSw;(try dsimp only at hSw);(try obtain ⟨s0,s1,s2,s3⟩:=hSw);(go_simp<;>with_reducible rfl))
 try simp only [Act.put,sA,sB,sC,sD,sE,sF]
 refine wpAnyH_take (i:=5) (v:=?_) rfl (by kernel_rfl) (by kernel_rfl) (by kernel_rfl) (fun _ _ _ h=>h) (Or.inl ⟨by rfl,?_⟩) hHeld ?_
 rotate_left
 ·(intro wq hSw;(try dsimp only at hSw);(try obtain ⟨s0,s1,s2,s3⟩:=hSw);(go_simp<;>with_reducible rfl))
 try simp only [Act.put,sA,sB,sC,sD,sE,sF]
 refine wpAnyH_take (i:=6) (v:=undef) rfl (by kernel_rfl) (by kernel_rfl) (by kernel_rfl) (fun _ _ _ h=>h) (Or.inr ⟨by rfl,rfl⟩) hHeld ?_
 try simp only [Act.put,sA,sB,sC,sD,sE,sF]
 refine wpAnyH_take (i:=8) (v:=undef) rfl (by kernel_rfl) (by kernel_rfl) (by kernel_rfl) (fun _ _ _ h=>h) (Or.inr ⟨by rfl,rfl⟩) hHeld ?_
 try simp only [Act.put,sA,sB,sC,sD,sE,sF]
 refine wpAnyH_ready (rs:=[7]) (by kernel_rfl) (by simp) ?_
 refine AllReadyH.cons rfl (fun K hK=>?_) AllReadyH.nil
 go_simp
 refine hK.out _ _ ?_ (fun hHeld=>?_)
 ·exact ⟨c0,c1,c2,c3⟩
 clear hK K
 try simp only [Act.put,sA,sB,sC,sD,sE,sF]
 refine wpAnyH_ready (rs:=[9]) (by kernel_rfl) (by simp) ?_
 refine AllReadyH.cons rfl (fun K hK=>?_) AllReadyH.nil
 go_simp
 refine hK.out _ _ ?_ (fun hHeld=>?_)
 ·exact ⟨c0,c1,c2,c3⟩
 clear hK K
 try simp only [Act.put,sA,sB,sC,sD,sE,sF]
 refine wpAnyH_take (i:=10) (v:=undef) rfl (by kernel_rfl) (by kernel_rfl) (by kernel_rfl) (fun _ _ _ h=>h) (Or.inr ⟨by rfl,rfl⟩) hHeld ?_
 try simp only [Act.put,sA,sB,sC,sD,sE,sF]
 refine wpAnyH_take (i:=11) (v:=?_) rfl (by kernel_rfl) (by kernel_rfl) (by kernel_rfl) (fun _ _ _ h=>h) (Or.inl ⟨by rfl,?_⟩) hHeld ?_
 rotate_left
 ·(intro wq hSw;(try dsimp only at hSw);(try obtain ⟨s0,s1,s2,s3⟩:=hSw);(go_simp<;>with_reducible rfl))
 try simp only [Act.put,sA,sB,sC,sD,sE,sF]
 refine wpAnyH_take (i:=12) (v:=?_) rfl (by kernel_rfl) (by kernel_rfl) (by kernel_rfl) (fun _ _ _ h=>h) (Or.inl ⟨by rfl,?_⟩) hHeld ?_
 rotate_left
 ·(intro wq hSw;(try dsimp only at hSw);(try obtain ⟨s0,s1,s2,s3⟩:=hSw);(go_simp<;>with_reducible rfl))
 try simp only [Act.put,sA,sB,sC,sD,sE,sF]
 refine wpAnyH_done (by kernel_rfl) ?_ _
 go_wp2_with fail
 by_cases h0:N=0
 ·rw [show decide (0<N)=false from by simp;omega] at HS
  have HN:=qA h0
  clear h0
  refine wp_region_held_drew (S:=fun w'=>w'.cell? ⟨G,0,none⟩=some (.int .i64 (L:Int))∧w'.cell? ⟨G,1,none⟩=some (.int .i64 (N:Int))∧w'.cell? ⟨G+1,0,none⟩=some (.int .i64 (l:Int))∧w'.cell? ⟨G+1,1,none⟩=some (.int .i64 (n:Int))) (by kernel_rfl) (by first|exact ⟨d0,d1,d2,d3⟩|exact ⟨c0,c1,c2,c3⟩) (fun hHeld=>?_)
  refine wpAnyH_take (i:=0) (v:=?_) rfl (by kernel_rfl) (by kernel_rfl) (by kernel_rfl) (fun _ _ _ h=>h) (Or.inl ⟨by rfl,?_⟩) hHeld ?_
  rotate_left
  ·(intro wq hSw;(try dsimp only at hSw);(try obtain ⟨s0,s1,s2,s3⟩:=hSw);(go_simp<;>with_reducible rfl))
  try simp only [Act.put,sA,sB,sC,sD,sE,sF]
  refine wpAnyH_ready (rs:=[1]) (by kernel_rfl) (by simp) ?_
  refine AllReadyH.cons rfl (fun K hK=>?_) AllReadyH.nil
  go_simp
  refine (HS.out _).mono ?_
  rintro e wz ⟨rfl,hbz⟩
  have d0:wz.cell? ⟨G,0,none⟩=some (.int .i64 (L:Int)):=by rw [hbz.cell (p:=⟨G,0,none⟩) (block_lt_of_cell (by first|exact d0|exact c0))];first|exact d0|exact c0
  have d1:wz.cell? ⟨G,1,none⟩=some (.int .i64 (N:Int)):=by rw [hbz.cell (p:=⟨G,1,none⟩) (block_lt_of_cell (by first|exact d1|exact c1))];first|exact d1|exact c1
  have d2:wz.cell? ⟨G+1,0,none⟩=some (.int .i64 (l:Int)):=by rw [hbz.cell (p:=⟨G+1,0,none⟩) (block_lt_of_cell (by first|exact d2|exact c2))];first|exact d2|exact c2
  have d3:wz.cell? ⟨G+1,1,none⟩=some (.int .i64 (n:Int)):=by rw [hbz.cell (p:=⟨G+1,1,none⟩) (block_lt_of_cell (by first|exact d3|exact c3))];first|exact d3|exact c3
  have HBW:Hid (Below G w wz∧G≤wz.heap.size):=qX HBW.out hbz ⟨rfl,rfl,rfl,Nat.le_refl _,fun _ _=>rfl⟩
  clear hbz
  go_wp2_with fail
  refine hK.out _ _ ?_ (fun hHeld=>?_)
  ·exact ⟨d0,d1,d2,d3⟩
  clear hK K
  try simp only [Act.put,sA,sB,sC,sD,sE,sF]
  refine wpAnyH_take (i:=2) (v:=?_) rfl (by kernel_rfl) (by kernel_rfl) (by kernel_rfl) (fun _ _ _ h=>h) (Or.inl ⟨by rfl,?_⟩) hHeld ?_
  rotate_left
  ·(intro wq hSw;(try dsimp only at hSw);(try obtain ⟨s0,s1,s2,s3⟩:=hSw);(go_simp<;>with_reducible rfl))
  try simp only [Act.put,sA,sB,sC,sD,sE,sF]
  refine wpAnyH_take (i:=3) (v:=undef) rfl (by kernel_rfl) (by kernel_rfl) (by kernel_rfl) (fun _ _ _ h=>h) (Or.inr ⟨by rfl,rfl⟩) hHeld ?_
  try simp only [Act.put,sA,sB,sC,sD,sE,sF]
  refine wpAnyH_take (i:=4) (v:=?_) rfl (by kernel_rfl) (by kernel_rfl) (by kernel_rfl) (fun _ _ _ h=>h) (Or.inl ⟨by rfl,?_⟩) hHeld ?_
  rotate_left
  ·(intro wq hSw;(try dsimp only at hSw);(try obtain ⟨s0,s1,s2,s3⟩:=hSw);(go_simp<;>with_reducible rfl))
  try simp only [Act.put,sA,sB,sC,sD,sE,sF]
  refine wpAnyH_take (i:=5) (v:=?_) rfl (by kernel_rfl) (by kernel_rfl) (by kernel_rfl) (fun _ _ _ h=>h) (Or.inl ⟨by rfl,?_⟩) hHeld ?_
  rotate_left
  ·(intro wq hSw;(try dsimp only at hSw);(try obtain ⟨s0,s1,s2,s3⟩:=hSw);(go_simp<;>with_reducible rfl))
  try simp only [Act.put,sA,sB,sC,sD,sE,sF]
  refine wpAnyH_take (i:=6) (v:=undef) rfl (by kernel_rfl) (by kernel_rfl) (by kernel_rfl) (fun _ _ _ h=>h) (Or.inr ⟨by rfl,rfl⟩) hHeld ?_
  try simp only [Act.put,sA,sB,sC,sD,sE,sF]
  refine wpAnyH_take (i:=7) (v:=undef) rfl (by kernel_rfl) (by kernel_rfl) (by kernel_rfl) (fun _ _ _ h=>h) (Or.inr ⟨by rfl,rfl⟩) hHeld ?_
  try simp only [Act.put,sA,sB,sC,sD,sE,sF]
  refine wpAnyH_take (i:=8) (v:=undef) rfl (by kernel_rfl) (by kernel_rfl) (by kernel_rfl) (fun _ _ _ h=>h) (Or.inr ⟨by rfl,rfl⟩) hHeld ?_
  try simp only [Act.put,sA,sB,sC,sD,sE,sF]
  refine wpAnyH_take (i:=9) (v:=undef) rfl (by kernel_rfl) (by kernel_rfl) (by kernel_rfl) (fun _ _ _ h=>h) (Or.inr ⟨by rfl,rfl⟩) hHeld ?_
  try simp only [Act.put,sA,sB,sC,sD,sE,sF]
  refine wpAnyH_ready (rs:=[10]) (by kernel_rfl) (by simp) ?_
  refine AllReadyH.cons rfl (fun K hK=>?_) AllReadyH.nil
  go_simp
  refine hK.out _ _ ?_ (fun hHeld=>?_)
  ·exact ⟨d0,d1,d2,d3⟩
  clear hK K
  try simp only [Act.put,sA,sB,sC,sD,sE,sF]
  refine wpAnyH_take (i:=11) (v:=undef) rfl (by kernel_rfl) (by kernel_rfl) (by kernel_rfl) (fun _ _ _ h=>h) (Or.inr ⟨by rfl,rfl⟩) hHeld ?_
  try simp only [Act.put,sA,sB,sC,sD,sE,sF]
  refine wpAnyH_take (i:=12) (v:=undef) rfl (by kernel_rfl) (by kernel_rfl) (by kernel_rfl) (fun _ _ _ h=>h) (Or.inr ⟨by rfl,rfl⟩) hHeld ?_
  try simp only [Act.put,sA,sB,sC,sD,sE,sF]
  refine wpAnyH_take (i:=13) (v:=undef) rfl (by kernel_rfl) (by kernel_rfl) (by kernel_rfl) (fun _ _ _ h=>h) (Or.inr ⟨by rfl,rfl⟩) hHeld ?_
  try simp only [Act.put,sA,sB,sC,sD,sE,sF]
  refine wpAnyH_take (i:=14) (v:=?_) rfl (by kernel_rfl) (by kernel_rfl) (by kernel_rfl) (fun _ _ _ h=>h) (Or.inl ⟨by rfl,?_⟩) hHeld ?_
  rotate_left
  ·(intro wq hSw;(try dsimp only at hSw);(try obtain ⟨s0,s1,s2,s3⟩:=hSw);(go_simp<;>with_reducible rfl))
  try simp only [Act.put,sA,sB,sC,sD,sE,sF]
  refine wpAnyH_take (i:=15) (v:=?_) rfl (by kernel_rfl) (by kernel_rfl) (by kernel_rfl) (fun _ _ _ h=>h) (Or.inl ⟨by rfl,?_⟩) hHeld ?_
  rotate_left
  ·(intro wq hSw;(try dsimp only at hSw);(try obtain ⟨s0,s1,s2,s3⟩:=hSw);(go_simp<;>with_reducible rfl))
  try simp only [Act.put,sA,sB,sC,sD,sE,sF]
  refine wpAnyH_done (by kernel_rfl) ?_ _
  go_wp2_with fail
  go_ret
  refine ⟨false,rfl,⟨fun h=>(by cases h),fun h=>absurd h.1 (by have:=HN.out;omega)⟩,by rw [HG.out];exact HBW.out.1⟩
 rw [show decide (0<N)=true from by simp;omega] at HS
 have HN:=qA h0
 clear h0
 refine wp_region_held_drew (S:=fun w'=>w'.cell? ⟨G,0,none⟩=some (.int .i64 (L:Int))∧w'.cell? ⟨G,1,none⟩=some (.int .i64 (N:Int))∧w'.cell? ⟨G+1,0,none⟩=some (.int .i64 (l:Int))∧w'.cell? ⟨G+1,1,none⟩=some (.int .i64 (n:Int))) (by kernel_rfl) (by first|exact ⟨d0,d1,d2,d3⟩|exact ⟨c0,c1,c2,c3⟩) (fun hHeld=>?_)
 refine wpAnyH_take (i:=0) (v:=?_) rfl (by kernel_rfl) (by kernel_rfl) (by kernel_rfl) (fun _ _ _ h=>h) (Or.inl ⟨by rfl,?_⟩) hHeld ?_
 rotate_left
 ·(intro wq hSw;(try dsimp only at hSw);(try obtain ⟨s0,s1,s2,s3⟩:=hSw);(go_simp<;>with_reducible rfl))
 try simp only [Act.put,sA,sB,sC,sD,sE,sF]
 refine wpAnyH_ready (rs:=[1]) (by kernel_rfl) (by simp) ?_
 refine AllReadyH.cons rfl (fun K hK=>?_) AllReadyH.nil
 go_simp
 refine (HS.out _).mono ?_
 rintro e wz ⟨rfl,hbz⟩
 have d0:wz.cell? ⟨G,0,none⟩=some (.int .i64 (L:Int)):=by rw [hbz.cell (p:=⟨G,0,none⟩) (block_lt_of_cell (by first|exact d0|exact c0))];first|exact d0|exact c0
 have d1:wz.cell? ⟨G,1,none⟩=some (.int .i64 (N:Int)):=by rw [hbz.cell (p:=⟨G,1,none⟩) (block_lt_of_cell (by first|exact d1|exact c1))];first|exact d1|exact c1
 have d2:wz.cell? ⟨G+1,0,none⟩=some (.int .i64 (l:Int)):=by rw [hbz.cell (p:=⟨G+1,0,none⟩) (block_lt_of_cell (by first|exact d2|exact c2))];first|exact d2|exact c2
 have d3:wz.cell? ⟨G+1,1,none⟩=some (.int .i64 (n:Int)):=by rw [hbz.cell (p:=⟨G+1,1,none⟩) (block_lt_of_cell (by first|exact d3|exact c3))];first|exact d3|exact c3
 have HBW:Hid (Below G w wz∧G≤wz.heap.size):=qX HBW.out hbz ⟨rfl,rfl,rfl,Nat.le_refl _,fun _ _=>rfl⟩
 clear hbz
 go_wp2_with fail
 refine hK.out _ _ ?_ (fun hHeld=>?_)
 ·exact ⟨d0,d1,d2,d3⟩
 clear hK K
 try simp only [Act.put,sA,sB,sC,sD,sE,sF]
 refine wpAnyH_take (i:=2) (v:=?_) rfl (by kernel_rfl) (by kernel_rfl) (by kernel_rfl) (fun _ _ _ h=>h) (Or.inl ⟨by rfl,?_⟩) hHeld ?_
 rotate_left
 ·(intro wq hSw;(try dsimp only at hSw);(try obtain ⟨s0,s1,s2,s3⟩:=hSw);(go_simp<;>with_reducible rfl))
 try simp only [Act.put,sA,sB,sC,sD,sE,sF]
 refine wpAnyH_take (i:=3) (v:=?_) rfl (by kernel_rfl) (by kernel_rfl) (by kernel_rfl) (fun _ _ _ h=>h) (Or.inl ⟨by rfl,?_⟩) hHeld ?_
 rotate_left
 ·(intro wq hSw;(try dsimp only at hSw);(try obtain ⟨s0,s1,s2,s3⟩:=hSw);(go_simp<;>with_reducible rfl))
 try simp only [Act.put,sA,sB,sC,sD,sE,sF]
 refine wpAnyH_take (i:=4) (v:=?_) rfl (by kernel_rfl) (by kernel_rfl) (by kernel_rfl) (fun _ _ _ h=>h) (Or.inl ⟨by rfl,?_⟩) hHeld ?_
 rotate_left
 ·(intro wq hSw;(try dsimp only at hSw);(try obtain ⟨s0,s1,s2,s3⟩:=hSw);(go_simp<;>with_reducible rfl))
 try simp only [Act.put,sA,sB,sC,sD,sE,sF]
 refine wpAnyH_take (i:=5) (v:=?_) rfl (by kernel_rfl) (by kernel_rfl) (by kernel_rfl) (fun _ _ _ h=>h) (Or.inl ⟨by rfl,?_⟩) hHeld ?_
 rotate_left
 ·(intro wq hSw;(try dsimp only at hSw);(try obtain ⟨s0,s1,s2,s3⟩:=hSw);(go_simp<;>with_reducible rfl))
 try simp only [Act.put,sA,sB,sC,sD,sE,sF]
 refine wpAnyH_take (i:=6) (v:=undef) rfl (by kernel_rfl) (by kernel_rfl) (by kernel_rfl) (fun _ _ _ h=>h) (Or.inr ⟨by rfl,rfl⟩) hHeld ?_
 try simp only [Act.put,sA,sB,sC,sD,sE,sF]
 refine wpAnyH_take (i:=7) (v:=undef) rfl (by kernel_rfl) (by kernel_rfl) (by kernel_rfl) (fun _ _ _ h=>h) (Or.inr ⟨by rfl,rfl⟩) hHeld ?_
 try simp only [Act.put,sA,sB,sC,sD,sE,sF]
 refine wpAnyH_take (i:=8) (v:=undef) rfl (by kernel_rfl) (by kernel_rfl) (by kernel_rfl) (fun _ _ _ h=>h) (Or.inr ⟨by rfl,rfl⟩) hHeld ?_
 try simp only [Act.put,sA,sB,sC,sD,sE,sF]
 refine wpAnyH_take (i:=9) (v:=undef) rfl (by kernel_rfl) (by kernel_rfl) (by kernel_rfl) (fun _ _ _ h=>h) (Or.inr ⟨by rfl,rfl⟩) hHeld ?_
 try simp only [Act.put,sA,sB,sC,sD,sE,sF]
 refine wpAnyH_ready (rs:=[10]) (by kernel_rfl) (by simp) ?_
 refine AllReadyH.cons rfl (fun K hK=>?_) AllReadyH.nil
 go_simp
 refine hK.out _ _ ?_ (fun hHeld=>?_)
 ·exact ⟨d0,d1,d2,d3⟩
 clear hK K
 try simp only [Act.put,sA,sB,sC,sD,sE,sF]
 refine wpAnyH_take (i:=11) (v:=undef) rfl (by kernel_rfl) (by kernel_rfl) (by kernel_rfl) (fun _ _ _ h=>h) (Or.inr ⟨by rfl,rfl⟩) hHeld ?_
 try simp only [Act.put,sA,sB,sC,sD,sE,sF]
 refine wpAnyH_take (i:=12) (v:=undef) rfl (by kernel_rfl) (by kernel_rfl) (by kernel_rfl) (fun _ _ _ h=>h) (Or.inr ⟨by rfl,rfl⟩) hHeld ?_
 try simp only [Act.put,sA,sB,sC,sD,sE,sF]
 refine wpAnyH_take (i:=13) (v:=undef) rfl (by kernel_rfl) (by kernel_rfl) (by kernel_rfl) (fun _ _ _ h=>h) (Or.inr ⟨by rfl,rfl⟩) hHeld ?_
 try simp only [Act.put,sA,sB,sC,sD,sE,sF]
 refine wpAnyH_take (i:=14) (v:=?_) rfl (by kernel_rfl) (by kernel_rfl) (by kernel_rfl) (fun _ _ _ h=>h) (Or.inl ⟨by rfl,?_⟩) hHeld ?_
 rotate_left
 ·(intro wq hSw;(try dsimp only at hSw);(try obtain ⟨s0,s1,s2,s3⟩:=hSw);(go_simp<;>with_reducible rfl))
 try simp only [Act.put,sA,sB,sC,sD,sE,sF]
 refine wpAnyH_take (i:=15) (v:=?_) rfl (by kernel_rfl) (by kernel_rfl) (by kernel_rfl) (fun _ _ _ h=>h) (Or.inl ⟨by rfl,?_⟩) hHeld ?_
 rotate_left
 ·(intro wq hSw;(try dsimp only at hSw);(try obtain ⟨s0,s1,s2,s3⟩:=hSw);(go_simp<;>with_reducible rfl))
 try simp only [Act.put,sA,sB,sC,sD,sE,sF]
 refine wpAnyH_done (by kernel_rfl) ?_ _
 go_wp2_with fail
 go_ret
 refine ⟨false,rfl,⟨fun h=>(by cases h),fun h=>absurd h HNO.out⟩,by rw [HG.out];exact HBW.out.1⟩
theorem qG7 (L N l n:Nat) (w:World) (h1:L+N≤32) (h2:l+n≤32) (c:L≤l) (c':¬(vQ L N≤vQ l n)):
  Calls Tryz.prog 220 #[dX L N,dX l n] w (wH L N l n w):=by
 have HNO:Hid (¬(0<N∧L≤l∧32-L-N≤32-l-n∧N≤n+2*5)):=fun h=>c' (by unfold vQ;exact h.2.2.1)
 have cd:decide (L≤l)=true:=decide_eq_true c
 have cd2:decide (vQ L N≤vQ l n)=false:=decide_eq_false c'
 have H1:=qA h1
 have H2:=qA h2
 have HS:Hid (∀w,Calls Tryz.prog 199 #[.agg #[.int .i64 (L:Int),.int .i64 (N:Int)]] w fun e w'=>e= .returned (.bool (decide (0<N)))∧Below w.heap.size w w'):=fun w=>kE L N w h1
 have HB1:Hid (∀w,Calls Tryz.prog 200 #[.agg #[.int .i64 (L:Int),.int .i64 (N:Int)]] w fun e w'=>e= .returned (.int .i64 ((32-L-N:Nat):Int))∧Below w.heap.size w w'):=fun w=>jX L N (32-L-N) w (by omega)
 have HB2:Hid (∀w,Calls Tryz.prog 200 #[.agg #[.int .i64 (l:Int),.int .i64 (n:Int)]] w fun e w'=>e= .returned (.int .i64 ((32-l-n:Nat):Int))∧Below w.heap.size w w'):=fun w=>jX l n (32-l-n) w (by omega)
 have HM:=qA (qAM w L N l n)
 clear h1 h2 c c'
 unfold dX
 go_enter Tryz.func220,Tryz.ntmps220
 go_wp2_with fail
 generalize (w.alloc (.cells #[.int .i64 (L:Int),.int .i64 (N:Int)] 215)).alloc (.cells #[.int .i64 (l:Int),.int .i64 (n:Int)] 215)=W1 at*
 obtain ⟨c0,c1,c2,c3,B1⟩:=HM.out
 have HBW:Hid (Below w.heap.size w W1∧w.heap.size≤W1.heap.size):=⟨B1,B1.size⟩
 clear B1 HM HB1 HB2
 obtain ⟨G,hG⟩:∃G,w.heap.size=G:=⟨_,rfl⟩
 rw [hG] at c0 c1 c2 c3 HBW⊢
 have HG:=qA hG
 clear hG
 go_region_held3 (fun w'=>w'.cell? ⟨G,0,none⟩=some (.int .i64 (L:Int))∧w'.cell? ⟨G,1,none⟩=some (.int .i64 (N:Int))∧w'.cell? ⟨G+1,0,none⟩=some (.int .i64 (l:Int))∧w'.cell? ⟨G+1,1,none⟩=some (.int .i64 (n:Int))) (first|exact ⟨d0,d1,d2,d3⟩|exact ⟨c0,c1,c2,c3⟩)
  ((go_at_call 200;go_must (refine (zN _ _ _ (by first|exact H1.out|exact H2.out)).mono ?_);rintro _ wz ⟨rfl,hbz⟩;(have d0:wz.cell? ⟨G,0,none⟩=some (.int .i64 (L:Int)):=by rw [hbz.cell (p:=⟨G,0,none⟩) (block_lt_of_cell (by first|exact d0|exact c0))];first|exact d0|exact c0);(have d1:wz.cell? ⟨G,1,none⟩=some (.int .i64 (N:Int)):=by rw [hbz.cell (p:=⟨G,1,none⟩) (block_lt_of_cell (by first|exact d1|exact c1))];first|exact d1|exact c1);(have d2:wz.cell? ⟨G+1,0,none⟩=some (.int .i64 (l:Int)):=by rw [hbz.cell (p:=⟨G+1,0,none⟩) (block_lt_of_cell (by first|exact d2|exact c2))];first|exact d2|exact c2);(have d3:wz.cell? ⟨G+1,1,none⟩=some (.int .i64 (n:Int)):=by rw [hbz.cell (p:=⟨G+1,1,none⟩) (block_lt_of_cell (by first|exact d3|exact c3))];first|exact d3|exact c3);(have HBW:Hid (Below G w wz∧G≤wz.heap.size):=qX HBW.out hbz ⟨rfl,rfl,rfl,Nat.le_refl _,fun _ _=>rfl⟩);clear hbz))
 go_wp2_with fail
 by_cases h0:N=0
 ·rw [show decide (0<N)=false from by simp;omega] at HS
  have HN:=qA h0
  clear h0
  refine wp_region_held_drew (S:=fun w'=>w'.cell? ⟨G,0,none⟩=some (.int .i64 (L:Int))∧w'.cell? ⟨G,1,none⟩=some (.int .i64 (N:Int))∧w'.cell? ⟨G+1,0,none⟩=some (.int .i64 (l:Int))∧w'.cell? ⟨G+1,1,none⟩=some (.int .i64 (n:Int))) (by kernel_rfl) (by first|exact ⟨d0,d1,d2,d3⟩|exact ⟨c0,c1,c2,c3⟩) (fun hHeld=>?_)
  refine wpAnyH_take (i:=0) (v:=?_) rfl (by kernel_rfl) (by kernel_rfl) (by kernel_rfl) (fun _ _ _ h=>h) (Or.inl ⟨by rfl,?_⟩) hHeld ?_
  rotate_left
  ·(intro wq hSw;(try dsimp only at hSw);(try obtain ⟨s0,s1,s2,s3⟩:=hSw);(go_simp<;>with_reducible rfl))
  try simp only [Act.put,sA,sB,sC,sD,sE,sF]
  refine wpAnyH_ready (rs:=[1]) (by kernel_rfl) (by simp) ?_
  refine AllReadyH.cons rfl (fun K hK=>?_) AllReadyH.nil
  go_simp
  refine (HS.out _).mono ?_
  rintro e wz ⟨rfl,hbz⟩
  have d0:wz.cell? ⟨G,0,none⟩=some (.int .i64 (L:Int)):=by rw [hbz.cell (p:=⟨G,0,none⟩) (block_lt_of_cell (by first|exact d0|exact c0))];first|exact d0|exact c0
  have d1:wz.cell? ⟨G,1,none⟩=some (.int .i64 (N:Int)):=by rw [hbz.cell (p:=⟨G,1,none⟩) (block_lt_of_cell (by first|exact d1|exact c1))];first|exact d1|exact c1
  have d2:wz.cell? ⟨G+1,0,none⟩=some (.int .i64 (l:Int)):=by rw [hbz.cell (p:=⟨G+1,0,none⟩) (block_lt_of_cell (by first|exact d2|exact c2))];first|exact d2|exact c2
  have d3:wz.cell? ⟨G+1,1,none⟩=some (.int .i64 (n:Int)):=by rw [hbz.cell (p:=⟨G+1,1,none⟩) (block_lt_of_cell (by first|exact d3|exact c3))];first|exact d3|exact c3
  have HBW:Hid (Below G w wz∧G≤wz.heap.size):=qX HBW.out hbz ⟨rfl,rfl,rfl,Nat.le_refl _,fun _ _=>rfl⟩
  clear hbz
  go_wp2_with fail
  refine hK.out _ _ ?_ (fun hHeld=>?_)
  ·exact ⟨d0,d1,d2,d3⟩
  clear hK K
  try simp only [Act.put,sA,sB,sC,sD,sE,sF]
  refine wpAnyH_take (i:=2) (v:=?_) rfl (by kernel_rfl) (by kernel_rfl) (by kernel_rfl) (fun _ _ _ h=>h) (Or.inl ⟨by rfl,?_⟩) hHeld ?_
  rotate_left
  ·(intro wq hSw;(try dsimp only at hSw);(try obtain ⟨s0,s1,s2,s3⟩:=hSw);(go_simp<;>with_reducible rfl))
  try simp only [Act.put,sA,sB,sC,sD,sE,sF]
  refine wpAnyH_take (i:=3) (v:=undef) rfl (by kernel_rfl) (by kernel_rfl) (by kernel_rfl) (fun _ _ _ h=>h) (Or.inr ⟨by rfl,rfl⟩) hHeld ?_
  try simp only [Act.put,sA,sB,sC,sD,sE,sF]
  refine wpAnyH_take (i:=4) (v:=?_) rfl (by kernel_rfl) (by kernel_rfl) (by kernel_rfl) (fun _ _ _ h=>h) (Or.inl ⟨by rfl,?_⟩) hHeld ?_
  rotate_left
  ·(intro wq hSw;(try dsimp only at hSw);(try obtain ⟨s0,s1,s2,s3⟩:=hSw);(go_simp<;>with_reducible rfl))
  try simp only [Act.put,sA,sB,sC,sD,sE,sF]
  refine wpAnyH_take (i:=5) (v:=?_) rfl (by kernel_rfl) (by kernel_rfl) (by kernel_rfl) (fun _ _ _ h=>h) (Or.inl ⟨by rfl,?_⟩) hHeld ?_
  rotate_left
  ·(intro wq hSw;(try dsimp only at hSw);(try obtain ⟨s0,s1,s2,s3⟩:=hSw);(go_simp<;>with_reducible rfl))
  try simp only [Act.put,sA,sB,sC,sD,sE,sF]
  refine wpAnyH_take (i:=6) (v:=undef) rfl (by kernel_rfl) (by kernel_rfl) (by kernel_rfl) (fun _ _ _ h=>h) (Or.inr ⟨by rfl,rfl⟩) hHeld ?_
  try simp only [Act.put,sA,sB,sC,sD,sE,sF]
  refine wpAnyH_take (i:=7) (v:=undef) rfl (by kernel_rfl) (by kernel_rfl) (by kernel_rfl) (fun _ _ _ h=>h) (Or.inr ⟨by rfl,rfl⟩) hHeld ?_
  try simp only [Act.put,sA,sB,sC,sD,sE,sF]
  refine wpAnyH_take (i:=8) (v:=undef) rfl (by kernel_rfl) (by kernel_rfl) (by kernel_rfl) (fun _ _ _ h=>h) (Or.inr ⟨by rfl,rfl⟩) hHeld ?_
  try simp only [Act.put,sA,sB,sC,sD,sE,sF]
  refine wpAnyH_take (i:=9) (v:=undef) rfl (by kernel_rfl) (by kernel_rfl) (by kernel_rfl) (fun _ _ _ h=>h) (Or.inr ⟨by rfl,rfl⟩) hHeld ?_
  try simp only [Act.put,sA,sB,sC,sD,sE,sF]
  refine wpAnyH_ready (rs:=[10]) (by kernel_rfl) (by simp) ?_
  refine AllReadyH.cons rfl (fun K hK=>?_) AllReadyH.nil
  go_simp
  refine hK.out _ _ ?_ (fun hHeld=>?_)
  ·exact ⟨d0,d1,d2,d3⟩
  clear hK K
  try simp only [Act.put,sA,sB,sC,sD,sE,sF]
  refine wpAnyH_take (i:=11) (v:=undef) rfl (by kernel_rfl) (by kernel_rfl) (by kernel_rfl) (fun _ _ _ h=>h) (Or.inr ⟨by rfl,rfl⟩) hHeld ?_
  try simp only [Act.put,sA,sB,sC,sD,sE,sF]
  refine wpAnyH_take (i:=12) (v:=undef) rfl (by kernel_rfl) (by kernel_rfl) (by kernel_rfl) (fun _ _ _ h=>h) (Or.inr ⟨by rfl,rfl⟩) hHeld ?_
  try simp only [Act.put,sA,sB,sC,sD,sE,sF]
  refine wpAnyH_take (i:=13) (v:=undef) rfl (by kernel_rfl) (by kernel_rfl) (by kernel_rfl) (fun _ _ _ h=>h) (Or.inr ⟨by rfl,rfl⟩) hHeld ?_
  try simp only [Act.put,sA,sB,sC,sD,sE,sF]
  refine wpAnyH_take (i:=14) (v:=?_) rfl (by kernel_rfl) (by kernel_rfl) (by kernel_rfl) (fun _ _ _ h=>h) (Or.inl ⟨by rfl,?_⟩) hHeld ?_
  rotate_left
  ·(intro wq hSw;(try dsimp only at hSw);(try obtain ⟨s0,s1,s2,s3⟩:=hSw);(go_simp<;>with_reducible rfl))
  try simp only [Act.put,sA,sB,sC,sD,sE,sF]
  refine wpAnyH_take (i:=15) (v:=?_) rfl (by kernel_rfl) (by kernel_rfl) (by kernel_rfl) (fun _ _ _ h=>h) (Or.inl ⟨by rfl,?_⟩) hHeld ?_
  rotate_left
  ·(intro wq hSw;(try dsimp only at hSw);(try obtain ⟨s0,s1,s2,s3⟩:=hSw);(go_simp<;>with_reducible rfl))
  try simp only [Act.put,sA,sB,sC,sD,sE,sF]
  refine wpAnyH_done (by kernel_rfl) ?_ _
  go_wp2_with fail
  go_ret
  refine ⟨false,rfl,⟨fun h=>(by cases h),fun h=>absurd h.1 (by have:=HN.out;omega)⟩,by rw [HG.out];exact HBW.out.1⟩
 rw [show decide (0<N)=true from by simp;omega] at HS
 have HN:=qA h0
 clear h0
 refine wp_region_held_drew (S:=fun w'=>w'.cell? ⟨G,0,none⟩=some (.int .i64 (L:Int))∧w'.cell? ⟨G,1,none⟩=some (.int .i64 (N:Int))∧w'.cell? ⟨G+1,0,none⟩=some (.int .i64 (l:Int))∧w'.cell? ⟨G+1,1,none⟩=some (.int .i64 (n:Int))) (by kernel_rfl) (by first|exact ⟨d0,d1,d2,d3⟩|exact ⟨c0,c1,c2,c3⟩) (fun hHeld=>?_)
 refine wpAnyH_take (i:=0) (v:=?_) rfl (by kernel_rfl) (by kernel_rfl) (by kernel_rfl) (fun _ _ _ h=>h) (Or.inl ⟨by rfl,?_⟩) hHeld ?_
 rotate_left
 ·(intro wq hSw;(try dsimp only at hSw);(try obtain ⟨s0,s1,s2,s3⟩:=hSw);(go_simp<;>with_reducible rfl))
 try simp only [Act.put,sA,sB,sC,sD,sE,sF]
 refine wpAnyH_ready (rs:=[1]) (by kernel_rfl) (by simp) ?_
 refine AllReadyH.cons rfl (fun K hK=>?_) AllReadyH.nil
 go_simp
 refine (HS.out _).mono ?_
 rintro e wz ⟨rfl,hbz⟩
 have d0:wz.cell? ⟨G,0,none⟩=some (.int .i64 (L:Int)):=by rw [hbz.cell (p:=⟨G,0,none⟩) (block_lt_of_cell (by first|exact d0|exact c0))];first|exact d0|exact c0
 have d1:wz.cell? ⟨G,1,none⟩=some (.int .i64 (N:Int)):=by rw [hbz.cell (p:=⟨G,1,none⟩) (block_lt_of_cell (by first|exact d1|exact c1))];first|exact d1|exact c1
 have d2:wz.cell? ⟨G+1,0,none⟩=some (.int .i64 (l:Int)):=by rw [hbz.cell (p:=⟨G+1,0,none⟩) (block_lt_of_cell (by first|exact d2|exact c2))];first|exact d2|exact c2
 have d3:wz.cell? ⟨G+1,1,none⟩=some (.int .i64 (n:Int)):=by rw [hbz.cell (p:=⟨G+1,1,none⟩) (block_lt_of_cell (by first|exact d3|exact c3))];first|exact d3|exact c3
 have HBW:Hid (Below G w wz∧G≤wz.heap.size):=qX HBW.out hbz ⟨rfl,rfl,rfl,Nat.le_refl _,fun _ _=>rfl⟩
 clear hbz
 go_wp2_with fail
 refine hK.out _ _ ?_ (fun hHeld=>?_)
 ·exact ⟨d0,d1,d2,d3⟩
 clear hK K
 try simp only [Act.put,sA,sB,sC,sD,sE,sF]
 refine wpAnyH_take (i:=2) (v:=?_) rfl (by kernel_rfl) (by kernel_rfl) (by kernel_rfl) (fun _ _ _ h=>h) (Or.inl ⟨by rfl,?_⟩) hHeld ?_
 rotate_left
 ·(intro wq hSw;(try dsimp only at hSw);(try obtain ⟨s0,s1,s2,s3⟩:=hSw);(go_simp<;>with_reducible rfl))
 try simp only [Act.put,sA,sB,sC,sD,sE,sF]
 refine wpAnyH_take (i:=3) (v:=?_) rfl (by kernel_rfl) (by kernel_rfl) (by kernel_rfl) (fun _ _ _ h=>h) (Or.inl ⟨by rfl,?_⟩) hHeld ?_
 rotate_left
 ·(intro wq hSw;(try dsimp only at hSw);(try obtain ⟨s0,s1,s2,s3⟩:=hSw);(go_simp<;>with_reducible rfl))
 try simp only [Act.put,sA,sB,sC,sD,sE,sF]
 refine wpAnyH_take (i:=4) (v:=?_) rfl (by kernel_rfl) (by kernel_rfl) (by kernel_rfl) (fun _ _ _ h=>h) (Or.inl ⟨by rfl,?_⟩) hHeld ?_
 rotate_left
 ·(intro wq hSw;(try dsimp only at hSw);(try obtain ⟨s0,s1,s2,s3⟩:=hSw);(go_simp<;>with_reducible rfl))
 try simp only [Act.put,sA,sB,sC,sD,sE,sF]
 refine wpAnyH_take (i:=5) (v:=?_) rfl (by kernel_rfl) (by kernel_rfl) (by kernel_rfl) (fun _ _ _ h=>h) (Or.inl ⟨by rfl,?_⟩) hHeld ?_
 rotate_left
 ·(intro wq hSw;(try dsimp only at hSw);(try obtain ⟨s0,s1,s2,s3⟩:=hSw);(go_simp<;>with_reducible rfl))
 try simp only [Act.put,sA,sB,sC,sD,sE,sF]
 refine wpAnyH_take (i:=6) (v:=undef) rfl (by kernel_rfl) (by kernel_rfl) (by kernel_rfl) (fun _ _ _ h=>h) (Or.inr ⟨by rfl,rfl⟩) hHeld ?_
 try simp only [Act.put,sA,sB,sC,sD,sE,sF]
 refine wpAnyH_take (i:=7) (v:=undef) rfl (by kernel_rfl) (by kernel_rfl) (by kernel_rfl) (fun _ _ _ h=>h) (Or.inr ⟨by rfl,rfl⟩) hHeld ?_
 try simp only [Act.put,sA,sB,sC,sD,sE,sF]
 refine wpAnyH_take (i:=8) (v:=undef) rfl (by kernel_rfl) (by kernel_rfl) (by kernel_rfl) (fun _ _ _ h=>h) (Or.inr ⟨by rfl,rfl⟩) hHeld ?_
 try simp only [Act.put,sA,sB,sC,sD,sE,sF]
 refine wpAnyH_take (i:=9) (v:=undef) rfl (by kernel_rfl) (by kernel_rfl) (by kernel_rfl) (fun _ _ _ h=>h) (Or.inr ⟨by rfl,rfl⟩) hHeld ?_
 try simp only [Act.put,sA,sB,sC,sD,sE,sF]
 refine wpAnyH_ready (rs:=[10]) (by kernel_rfl) (by simp) ?_
 refine AllReadyH.cons rfl (fun K hK=>?_) AllReadyH.nil
 go_simp
 refine hK.out _ _ ?_ (fun hHeld=>?_)
 ·exact ⟨d0,d1,d2,d3⟩
 clear hK K
 try simp only [Act.put,sA,sB,sC,sD,sE,sF]
 refine wpAnyH_take (i:=11) (v:=undef) rfl (by kernel_rfl) (by kernel_rfl) (by kernel_rfl) (fun _ _ _ h=>h) (Or.inr ⟨by rfl,rfl⟩) hHeld ?_
 try simp only [Act.put,sA,sB,sC,sD,sE,sF]
 refine wpAnyH_take (i:=12) (v:=undef) rfl (by kernel_rfl) (by kernel_rfl) (by kernel_rfl) (fun _ _ _ h=>h) (Or.inr ⟨by rfl,rfl⟩) hHeld ?_
 try simp only [Act.put,sA,sB,sC,sD,sE,sF]
 refine wpAnyH_take (i:=13) (v:=undef) rfl (by kernel_rfl) (by kernel_rfl) (by kernel_rfl) (fun _ _ _ h=>h) (Or.inr ⟨by rfl,rfl⟩) hHeld ?_
 try simp only [Act.put,sA,sB,sC,sD,sE,sF]
 refine wpAnyH_take (i:=14) (v:=?_) rfl (by kernel_rfl) (by kernel_rfl) (by kernel_rfl) (fun _ _ _ h=>h) (Or.inl ⟨by rfl,?_⟩) hHeld ?_
 rotate_left
 ·(intro wq hSw;(try dsimp only at hSw);(try obtain ⟨s0,s1,s2,s3⟩:=hSw);(go_simp<;>with_reducible rfl))
 try simp only [Act.put,sA,sB,sC,sD,sE,sF]
 refine wpAnyH_take (i:=15) (v:=?_) rfl (by kernel_rfl) (by kernel_rfl) (by kernel_rfl) (fun _ _ _ h=>h) (Or.inl ⟨by rfl,?_⟩) hHeld ?_
 rotate_left
 ·(intro wq hSw;(try dsimp only at hSw);(try obtain ⟨s0,s1,s2,s3⟩:=hSw);(go_simp<;>with_reducible rfl))
 try simp only [Act.put,sA,sB,sC,sD,sE,sF]
 refine wpAnyH_done (by kernel_rfl) ?_ _
 go_wp2_with fail
 go_ret
 refine ⟨false,rfl,⟨fun h=>(by cases h),fun h=>absurd h HNO.out⟩,by rw [HG.out];exact HBW.out.1⟩
theorem qG8 (L N l n:Nat) (w:World) (h1:L+N≤32) (h2:l+n≤32) (c:L≤l) (c':vQ L N≤vQ l n):
  Calls Tryz.prog 220 #[dX L N,dX l n] w (wH L N l n w):=by
 have HC1:=qA c
 have HC2:=qA c'
 have cd:decide (L≤l)=true:=decide_eq_true c
 have cd2:decide (vQ L N≤vQ l n)=true:=decide_eq_true c'
 have H1:=qA h1
 have H2:=qA h2
 have HS:Hid (∀w,Calls Tryz.prog 199 #[.agg #[.int .i64 (L:Int),.int .i64 (N:Int)]] w fun e w'=>e= .returned (.bool (decide (0<N)))∧Below w.heap.size w w'):=fun w=>kE L N w h1
 have HB1:Hid (∀w,Calls Tryz.prog 200 #[.agg #[.int .i64 (L:Int),.int .i64 (N:Int)]] w fun e w'=>e= .returned (.int .i64 ((32-L-N:Nat):Int))∧Below w.heap.size w w'):=fun w=>jX L N (32-L-N) w (by omega)
 have HB2:Hid (∀w,Calls Tryz.prog 200 #[.agg #[.int .i64 (l:Int),.int .i64 (n:Int)]] w fun e w'=>e= .returned (.int .i64 ((32-l-n:Nat):Int))∧Below w.heap.size w w'):=fun w=>jX l n (32-l-n) w (by omega)
 have HM:=qA (qAM w L N l n)
 clear h1 h2 c c'
 unfold dX
 go_enter Tryz.func220,Tryz.ntmps220
 go_wp2_with fail
 generalize (w.alloc (.cells #[.int .i64 (L:Int),.int .i64 (N:Int)] 215)).alloc (.cells #[.int .i64 (l:Int),.int .i64 (n:Int)] 215)=W1 at*
 obtain ⟨c0,c1,c2,c3,B1⟩:=HM.out
 have HBW:Hid (Below w.heap.size w W1∧w.heap.size≤W1.heap.size):=⟨B1,B1.size⟩
 clear B1 HM HB1 HB2
 obtain ⟨G,hG⟩:∃G,w.heap.size=G:=⟨_,rfl⟩
 rw [hG] at c0 c1 c2 c3 HBW⊢
 have HG:=qA hG
 clear hG
 go_region_held3 (fun w'=>w'.cell? ⟨G,0,none⟩=some (.int .i64 (L:Int))∧w'.cell? ⟨G,1,none⟩=some (.int .i64 (N:Int))∧w'.cell? ⟨G+1,0,none⟩=some (.int .i64 (l:Int))∧w'.cell? ⟨G+1,1,none⟩=some (.int .i64 (n:Int))) (first|exact ⟨d0,d1,d2,d3⟩|exact ⟨c0,c1,c2,c3⟩)
  ((go_at_call 200;go_must (refine (zN _ _ _ (by first|exact H1.out|exact H2.out)).mono ?_);rintro _ wz ⟨rfl,hbz⟩;(have d0:wz.cell? ⟨G,0,none⟩=some (.int .i64 (L:Int)):=by rw [hbz.cell (p:=⟨G,0,none⟩) (block_lt_of_cell (by first|exact d0|exact c0))];first|exact d0|exact c0);(have d1:wz.cell? ⟨G,1,none⟩=some (.int .i64 (N:Int)):=by rw [hbz.cell (p:=⟨G,1,none⟩) (block_lt_of_cell (by first|exact d1|exact c1))];first|exact d1|exact c1);(have d2:wz.cell? ⟨G+1,0,none⟩=some (.int .i64 (l:Int)):=by rw [hbz.cell (p:=⟨G+1,0,none⟩) (block_lt_of_cell (by first|exact d2|exact c2))];first|exact d2|exact c2);(have d3:wz.cell? ⟨G+1,1,none⟩=some (.int .i64 (n:Int)):=by rw [hbz.cell (p:=⟨G+1,1,none⟩) (block_lt_of_cell (by first|exact d3|exact c3))];first|exact d3|exact c3);(have HBW:Hid (Below G w wz∧G≤wz.heap.size):=qX HBW.out hbz ⟨rfl,rfl,rfl,Nat.le_refl _,fun _ _=>rfl⟩);clear hbz))
 go_wp2_with fail
 by_cases h0:N=0
 ·rw [show decide (0<N)=false from by simp;omega] at HS
  have HN:=qA h0
  clear h0
  refine wp_region_held_drew (S:=fun w'=>w'.cell? ⟨G,0,none⟩=some (.int .i64 (L:Int))∧w'.cell? ⟨G,1,none⟩=some (.int .i64 (N:Int))∧w'.cell? ⟨G+1,0,none⟩=some (.int .i64 (l:Int))∧w'.cell? ⟨G+1,1,none⟩=some (.int .i64 (n:Int))) (by kernel_rfl) (by first|exact ⟨d0,d1,d2,d3⟩|exact ⟨c0,c1,c2,c3⟩) (fun hHeld=>?_)
  refine wpAnyH_take (i:=0) (v:=?_) rfl (by kernel_rfl) (by kernel_rfl) (by kernel_rfl) (fun _ _ _ h=>h) (Or.inl ⟨by rfl,?_⟩) hHeld ?_
  rotate_left
  ·(intro wq hSw;(try dsimp only at hSw);(try obtain ⟨s0,s1,s2,s3⟩:=hSw);(go_simp<;>with_reducible rfl))
  try simp only [Act.put,sA,sB,sC,sD,sE,sF]
  refine wpAnyH_ready (rs:=[1]) (by kernel_rfl) (by simp) ?_
  refine AllReadyH.cons rfl (fun K hK=>?_) AllReadyH.nil
  go_simp
  refine (HS.out _).mono ?_
  rintro e wz ⟨rfl,hbz⟩
  have d0:wz.cell? ⟨G,0,none⟩=some (.int .i64 (L:Int)):=by rw [hbz.cell (p:=⟨G,0,none⟩) (block_lt_of_cell (by first|exact d0|exact c0))];first|exact d0|exact c0
  have d1:wz.cell? ⟨G,1,none⟩=some (.int .i64 (N:Int)):=by rw [hbz.cell (p:=⟨G,1,none⟩) (block_lt_of_cell (by first|exact d1|exact c1))];first|exact d1|exact c1
  have d2:wz.cell? ⟨G+1,0,none⟩=some (.int .i64 (l:Int)):=by rw [hbz.cell (p:=⟨G+1,0,none⟩) (block_lt_of_cell (by first|exact d2|exact c2))];first|exact d2|exact c2
  have d3:wz.cell? ⟨G+1,1,none⟩=some (.int .i64 (n:Int)):=by rw [hbz.cell (p:=⟨G+1,1,none⟩) (block_lt_of_cell (by first|exact d3|exact c3))];first|exact d3|exact c3
  have HBW:Hid (Below G w wz∧G≤wz.heap.size):=qX HBW.out hbz ⟨rfl,rfl,rfl,Nat.le_refl _,fun _ _=>rfl⟩
  clear hbz
  go_wp2_with fail
  refine hK.out _ _ ?_ (fun hHeld=>?_)
  ·exact ⟨d0,d1,d2,d3⟩
  clear hK K
  try simp only [Act.put,sA,sB,sC,sD,sE,sF]
  refine wpAnyH_take (i:=2) (v:=?_) rfl (by kernel_rfl) (by kernel_rfl) (by kernel_rfl) (fun _ _ _ h=>h) (Or.inl ⟨by rfl,?_⟩) hHeld ?_
  rotate_left
  ·(intro wq hSw;(try dsimp only at hSw);(try obtain ⟨s0,s1,s2,s3⟩:=hSw);(go_simp<;>with_reducible rfl))
  try simp only [Act.put,sA,sB,sC,sD,sE,sF]
  refine wpAnyH_take (i:=3) (v:=undef) rfl (by kernel_rfl) (by kernel_rfl) (by kernel_rfl) (fun _ _ _ h=>h) (Or.inr ⟨by rfl,rfl⟩) hHeld ?_
  try simp only [Act.put,sA,sB,sC,sD,sE,sF]
  refine wpAnyH_take (i:=4) (v:=?_) rfl (by kernel_rfl) (by kernel_rfl) (by kernel_rfl) (fun _ _ _ h=>h) (Or.inl ⟨by rfl,?_⟩) hHeld ?_
  rotate_left
  ·(intro wq hSw;(try dsimp only at hSw);(try obtain ⟨s0,s1,s2,s3⟩:=hSw);(go_simp<;>with_reducible rfl))
  try simp only [Act.put,sA,sB,sC,sD,sE,sF]
  refine wpAnyH_take (i:=5) (v:=?_) rfl (by kernel_rfl) (by kernel_rfl) (by kernel_rfl) (fun _ _ _ h=>h) (Or.inl ⟨by rfl,?_⟩) hHeld ?_
  rotate_left
  ·(intro wq hSw;(try dsimp only at hSw);(try obtain ⟨s0,s1,s2,s3⟩:=hSw);(go_simp<;>with_reducible rfl))
  try simp only [Act.put,sA,sB,sC,sD,sE,sF]
  refine wpAnyH_take (i:=6) (v:=undef) rfl (by kernel_rfl) (by kernel_rfl) (by kernel_rfl) (fun _ _ _ h=>h) (Or.inr ⟨by rfl,rfl⟩) hHeld ?_
  try simp only [Act.put,sA,sB,sC,sD,sE,sF]
  refine wpAnyH_take (i:=7) (v:=undef) rfl (by kernel_rfl) (by kernel_rfl) (by kernel_rfl) (fun _ _ _ h=>h) (Or.inr ⟨by rfl,rfl⟩) hHeld ?_
  try simp only [Act.put,sA,sB,sC,sD,sE,sF]
  refine wpAnyH_take (i:=8) (v:=undef) rfl (by kernel_rfl) (by kernel_rfl) (by kernel_rfl) (fun _ _ _ h=>h) (Or.inr ⟨by rfl,rfl⟩) hHeld ?_
  try simp only [Act.put,sA,sB,sC,sD,sE,sF]
  refine wpAnyH_take (i:=9) (v:=undef) rfl (by kernel_rfl) (by kernel_rfl) (by kernel_rfl) (fun _ _ _ h=>h) (Or.inr ⟨by rfl,rfl⟩) hHeld ?_
  try simp only [Act.put,sA,sB,sC,sD,sE,sF]
  refine wpAnyH_ready (rs:=[10]) (by kernel_rfl) (by simp) ?_
  refine AllReadyH.cons rfl (fun K hK=>?_) AllReadyH.nil
  go_simp
  refine hK.out _ _ ?_ (fun hHeld=>?_)
  ·exact ⟨d0,d1,d2,d3⟩
  clear hK K
  try simp only [Act.put,sA,sB,sC,sD,sE,sF]
  refine wpAnyH_take (i:=11) (v:=undef) rfl (by kernel_rfl) (by kernel_rfl) (by kernel_rfl) (fun _ _ _ h=>h) (Or.inr ⟨by rfl,rfl⟩) hHeld ?_
  try simp only [Act.put,sA,sB,sC,sD,sE,sF]
  refine wpAnyH_take (i:=12) (v:=undef) rfl (by kernel_rfl) (by kernel_rfl) (by kernel_rfl) (fun _ _ _ h=>h) (Or.inr ⟨by rfl,rfl⟩) hHeld ?_
  try simp only [Act.put,sA,sB,sC,sD,sE,sF]
  refine wpAnyH_take (i:=13) (v:=undef) rfl (by kernel_rfl) (by kernel_rfl) (by kernel_rfl) (fun _ _ _ h=>h) (Or.inr ⟨by rfl,rfl⟩) hHeld ?_
  try simp only [Act.put,sA,sB,sC,sD,sE,sF]
  refine wpAnyH_take (i:=14) (v:=?_) rfl (by kernel_rfl) (by kernel_rfl) (by kernel_rfl) (fun _ _ _ h=>h) (Or.inl ⟨by rfl,?_⟩) hHeld ?_
  rotate_left
  ·(intro wq hSw;(try dsimp only at hSw);(try obtain ⟨s0,s1,s2,s3⟩:=hSw);(go_simp<;>with_reducible rfl))
  try simp only [Act.put,sA,sB,sC,sD,sE,sF]
  refine wpAnyH_take (i:=15) (v:=?_) rfl (by kernel_rfl) (by kernel_rfl) (by kernel_rfl) (fun _ _ _ h=>h) (Or.inl ⟨by rfl,?_⟩) hHeld ?_
  rotate_left
  ·(intro wq hSw;(try dsimp only at hSw);(try obtain ⟨s0,s1,s2,s3⟩:=hSw);(go_simp<;>with_reducible rfl))
  try simp only [Act.put,sA,sB,sC,sD,sE,sF]
  refine wpAnyH_done (by kernel_rfl) ?_ _
  go_wp2_with fail
  go_ret
  refine ⟨false,rfl,⟨fun h=>(by cases h),fun h=>absurd h.1 (by have:=HN.out;omega)⟩,by rw [HG.out];exact HBW.out.1⟩
 rw [show decide (0<N)=true from by simp;omega] at HS
 have HN:=qA h0
 clear h0
 go_region_held3 (fun w'=>w'.cell? ⟨G,0,none⟩=some (.int .i64 (L:Int))∧w'.cell? ⟨G,1,none⟩=some (.int .i64 (N:Int))∧w'.cell? ⟨G+1,0,none⟩=some (.int .i64 (l:Int))∧w'.cell? ⟨G+1,1,none⟩=some (.int .i64 (n:Int))) (first|exact ⟨d0,d1,d2,d3⟩|exact ⟨c0,c1,c2,c3⟩)
  (first|(go_at_call 199;go_must (refine (HS.out _).mono ?_);rintro _ wz ⟨rfl,hbz⟩;(have d0:wz.cell? ⟨G,0,none⟩=some (.int .i64 (L:Int)):=by rw [hbz.cell (p:=⟨G,0,none⟩) (block_lt_of_cell (by first|exact d0|exact c0))];first|exact d0|exact c0);(have d1:wz.cell? ⟨G,1,none⟩=some (.int .i64 (N:Int)):=by rw [hbz.cell (p:=⟨G,1,none⟩) (block_lt_of_cell (by first|exact d1|exact c1))];first|exact d1|exact c1);(have d2:wz.cell? ⟨G+1,0,none⟩=some (.int .i64 (l:Int)):=by rw [hbz.cell (p:=⟨G+1,0,none⟩) (block_lt_of_cell (by first|exact d2|exact c2))];first|exact d2|exact c2);(have d3:wz.cell? ⟨G+1,1,none⟩=some (.int .i64 (n:Int)):=by rw [hbz.cell (p:=⟨G+1,1,none⟩) (block_lt_of_cell (by first|exact d3|exact c3))];first|exact d3|exact c3);(have HBW:Hid (Below G w wz∧G≤wz.heap.size):=qX HBW.out hbz ⟨rfl,rfl,rfl,Nat.le_refl _,fun _ _=>rfl⟩);clear hbz)|(go_at_call 218;go_must (refine (zE _).mono ?_);rintro _ wy ⟨rfl,rfl⟩))
 go_wp2_with fail
 go_ret
 refine ⟨_,rfl,?_,by rw [HG.out];exact HBW.out.1⟩
 have q0:=H2.out
 rw [decide_eq_true_iff,IntKind.wrap_i64,IntKind.wrap_i64]
 have q1:=HN.out
 have q2:=HC1.out
 have q3:=HC2.out
 unfold vQ at q3
 omega
theorem qBN (L N l n:Nat) (w:World) (h1:L+N≤32) (h2:l+n≤32):Calls Tryz.prog 220 #[dX L N,dX l n] w (wH L N l n w):=by
 by_cases c:L≤l
 ·by_cases c2:vQ L N≤vQ l n
  ·exact qG8 L N l n w h1 h2 c c2
  ·exact qG7 L N l n w h1 h2 c c2
 ·exact qG6 L N l n w h1 h2 c
end Go.Proofs.YtkpmalfigmimaaaGreatDoor
