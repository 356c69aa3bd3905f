import Derived.Test.YtkpmalfigmimaaaGreatDoorZ0
import Derived.Test.YtkpmalfigmimaaaGreatDoorP1C32
import Derived.Laws.BitsAllLaws
import Ieee.Arith
import Derived.Laws.FloatBits
set_option linter.unusedVariables false
set_option linter.unusedSimpArgs false
set_option maxRecDepth 100000
set_option maxHeartbeats 8000000
namespace Go.Proofs.YtkpmalfigmimaaaGreatDoor
open Go.RowKit
open M
structure zC (w:World) (c:Nat) (p L N:Nat):Prop where
 ahead:w.cell? ⟨c,0,none⟩=some (.int .u32 (p:Int))
 lead:w.cell? ⟨c,1,none⟩=some (.int .i64 (L:Int))
 len:w.cell? ⟨c,2,none⟩=some (.int .i64 (N:Int))
 fz:∀i,w.frozen? ⟨c,i,none⟩=false
theorem zC.lt {w:World} {c p L N:Nat} (h:zC w c p L N):c<w.heap.size:=block_lt_of_cell h.ahead
theorem zC.below {w w':World} {c p L N B:Nat} (h:zC w c p L N) (hB:Below B w w') (hc:c<B):zC w' c p L N:=by
 have e:=hB.block c hc
 exact ⟨by rw [World.cell?_of_block (w:=w) e];exact h.ahead,by rw [World.cell?_of_block (w:=w) e];exact h.lead,by rw [World.cell?_of_block (w:=w) e];exact h.len,
  fun i=>by rw [World.frozen?_of_block (w:=w) (w':=w') (a:=⟨c,i,none⟩) e];exact h.fz i⟩
def qIW (P:Prop) (L N l' n':Nat) (w:World) (e:Ending) (w':World):Prop:=
 ∃(l n:Nat) (own:Bool),e= .returned (.tuple #[.agg #[.int .i64 (l:Int),.int .i64 (n:Int)],.bool own])∧Below w.heap.size w w'∧
  ((own=false∧P∧l=L∧n=N)∨(own=true∧¬P∧l=l'∧n=n'))
def tQ (L N x:Nat) (w:World) (e:Ending) (w':World):Prop:=qIW (sut 32 5 L N x) L N (32-bitLen x) (wl x) w e w'
theorem pI (c p L N x:Nat) (w:World) (h:zC w c p L N) (hw:L+N≤32) (hx:x<4294967296) (h0:x≠0) (hT:qT w):
  Calls Tryz.prog 201 #[.pointer (some ⟨c,0,none⟩),.int .u32 x] w (tQ L N x w):=by
 have hb:=bitLen_le x 32 hx
 have ht:=tz_lt x h0 (by omega)
 have HW:Hid (32-bitLen x+wl x≤32∧(sut 32 5 L N x↔(0<N∧L≤32-bitLen x∧32-L-N≤32-(32-bitLen x)-wl x∧N≤wl x+2*5))):=by
  have q:wl x=bitLen x-tz x:=rfl
  refine ⟨by omega,?_⟩
  unfold sut
  rw [show 32-(32-bitLen x)-wl x=tz x from by omega]
 have HWO:Hid (∀w,qT w→Calls Tryz.prog 219 #[.int .u32 x] w fun e w'=>e= .returned (.agg #[.int .i64 ((32-bitLen x:Nat):Int),.int .i64 (wl x:Int)])∧Below w.heap.size w w'):=fun w h=>cP x w hx h0 h
 have HH:=qA h
 have HT:=qA hT
 have HL:=qA hw
 clear h hT hw hb ht hx
 unfold tQ
 generalize 32-bitLen x=l at*
 generalize wl x=n at*
 have HN0:Hid ((w.alloc (.cells #[.int .i64 0,.int .i64 0] 215)).heap[w.heap.size]?=some (.cells #[.int .i64 0,.int .i64 0] 215 (0,0))∧Below w.heap.size w (w.alloc (.cells #[.int .i64 0,.int .i64 0] 215))):=⟨heap_alloc_new w _,(Below.refl _ w).alloc (Nat.le_refl _) _⟩
 go_enter Tryz.func201,Tryz.ntmps201
 go_wp2_with fail
 generalize w.alloc (.cells #[.int .i64 0,.int .i64 0] 215)=w0 at*
 refine (HWO.out _ (HT.out.below HN0.out.2)).mono ?_
 rintro e w1 ⟨rfl,hb1⟩
 have s0:w.heap.size<w0.heap.size:=qB HN0.out.1
 have s1:=hb1.size
 have HB2:Hid (Below w.heap.size w (w1.alloc (.cells #[.int .i64 (l:Int),.int .i64 (n:Int)] 215))∧w.heap.size≤(w1.alloc (.cells #[.int .i64 (l:Int),.int .i64 (n:Int)] 215)).heap.size∧
   (w1.alloc (.cells #[.int .i64 (l:Int),.int .i64 (n:Int)] 215)).heap[w.heap.size]?=some (.cells #[.int .i64 0,.int .i64 0] 215 (0,0))∧
   (w1.alloc (.cells #[.int .i64 (l:Int),.int .i64 (n:Int)] 215)).heap[w1.heap.size]?=some (.cells #[.int .i64 (l:Int),.int .i64 (n:Int)] 215 (0,0))):=by
  have b1:Below w.heap.size w w1:=HN0.out.2.trans (hb1.mono HN0.out.2.size)
  refine ⟨b1.alloc (by omega) _,by simp;omega,?_,heap_alloc_new w1 _⟩
  exact xG (by rw [hb1.block w.heap.size s0];exact HN0.out.1) _
 clear hb1 HN0
 go_wp2_with fail
 obtain ⟨H,hH⟩:∃H,w1.heap.size=H:=⟨_,rfl⟩
 rw [hH] at HB2 s1⊢
 generalize w1.alloc (.cells #[.int .i64 (l:Int),.int .i64 (n:Int)] 215)=w2 at*
 obtain ⟨G,hG⟩:∃G,w.heap.size=G:=⟨_,rfl⟩
 have hcG:c<w.heap.size:=HH.out.lt
 have HC2:Hid (zC w2 c p L N):=HH.out.below HB2.out.1 hcG
 rw [hG] at HB2 s0 hcG⊢
 have HG:=qA hG
 clear hG hH
 have HBW:Hid (Below G w w2∧G≤w2.heap.size):=⟨HB2.out.1,HB2.out.2.1⟩
 have c0:w2.cell? ⟨c,1,none⟩=some (.int .i64 (L:Int)):=HC2.out.lead
 have c1:w2.cell? ⟨c,2,none⟩=some (.int .i64 (N:Int)):=HC2.out.len
 have c2:w2.cell? ⟨H,0,none⟩=some (.int .i64 (l:Int)):=by rw [cell_of_row _ _ _ _ _ _ HB2.out.2.2.2];rfl
 have c3:w2.cell? ⟨H,1,none⟩=some (.int .i64 (n:Int)):=by rw [cell_of_row _ _ _ _ _ _ HB2.out.2.2.2];rfl
 have HGB:=qA HB2.out.2.2.1
 clear HB2 HC2
 go_region_held3 (fun w'=>w'.cell? ⟨c,1,none⟩=some (.int .i64 (L:Int))∧w'.cell? ⟨c,2,none⟩=some (.int .i64 (N:Int))∧w'.cell? ⟨H,0,none⟩=some (.int .i64 (l:Int))∧w'.cell? ⟨H,1,none⟩=some (.int .i64 (n:Int))) (first|exact ⟨d0,d1,d2,d3⟩|exact ⟨c0,c1,c2,c3⟩)
  ((go_at_call 220;go_must (refine (qBN L N l n _ HL.out HW.out.1).mono ?_);rintro _ wz ⟨v,rfl,hv,hbz⟩;(have d0:wz.cell? ⟨c,1,none⟩=some (.int .i64 (L:Int)):=by rw [hbz.cell (p:=⟨c,1,none⟩) (block_lt_of_cell c0)];exact c0);(have d1:wz.cell? ⟨c,2,none⟩=some (.int .i64 (N:Int)):=by rw [hbz.cell (p:=⟨c,2,none⟩) (block_lt_of_cell c1)];exact c1);(have d2:wz.cell? ⟨H,0,none⟩=some (.int .i64 (l:Int)):=by rw [hbz.cell (p:=⟨H,0,none⟩) (block_lt_of_cell c2)];exact c2);(have d3:wz.cell? ⟨H,1,none⟩=some (.int .i64 (n:Int)):=by rw [hbz.cell (p:=⟨H,1,none⟩) (block_lt_of_cell c3)];exact c3);(have HGZ:Hid (wz.heap[G]?=some (.cells #[.int .i64 0,.int .i64 0] 215 (0,0))):=(by show _=_;rw [hbz.block G (qB HGB.out)];exact HGB.out));(have HBW:Hid (Below G w wz∧G≤wz.heap.size):=qX HBW.out hbz ⟨rfl,rfl,rfl,Nat.le_refl _,fun _ _=>rfl⟩);clear hbz))
 rw [←HW.out.2] at hv
 have HV:=qA hv
 clear hv
 have f0:=froz HGZ.out 0
 have f1:=froz HGZ.out 1
 have g0:wz.cell? ⟨G,0,none⟩=some (.int .i64 0):=by rw [cell_of_row _ _ _ _ _ _ HGZ.out];rfl
 have g1:wz.cell? ⟨G,1,none⟩=some (.int .i64 0):=by rw [cell_of_row _ _ _ _ _ _ HGZ.out];rfl
 cases v with
 |true=>
  go_wp2_with fail
  obtain ⟨r0,r1⟩:=uR (v:= .int .i64 (L:Int)) (v':= .int .i64 (N:Int)) g0 g1
  refine bodyPost_ret (v:= .tuple #[.agg #[.int .i64 (L:Int),.int .i64 (N:Int)],.bool false]) (by simp [results,Tryz.results201,go_sem,r0,r1]) rfl ?_
  refine ⟨L,N,false,rfl,?_,?_⟩
  ·rw [HG.out];exact (HBW.out.1.setCell (Nat.le_refl _) _).setCell (Nat.le_refl _) _
  ·exact .inl ⟨rfl,HV.out.1 (by trivial),rfl,rfl⟩
 |false=>
  go_wp2_with fail
  obtain ⟨r0,r1⟩:=uR (v:= .int .i64 (l:Int)) (v':= .int .i64 (n:Int)) g0 g1
  refine bodyPost_ret (v:= .tuple #[.agg #[.int .i64 (l:Int),.int .i64 (n:Int)],.bool true]) (by simp [results,Tryz.results201,go_sem,r0,r1]) rfl ?_
  refine ⟨l,n,true,rfl,?_,?_⟩
  ·rw [HG.out];exact (HBW.out.1.setCell (Nat.le_refl _) _).setCell (Nat.le_refl _) _
  ·exact .inr ⟨rfl,fun h=>(by have:=HV.out.2 h;cases this),rfl,rfl⟩
end Go.Proofs.YtkpmalfigmimaaaGreatDoor
namespace Go.Proofs.YtkpmalfigmimaaaGreatDoor
open Go.RowKit
open M
theorem lV (L N n b lo:Nat) (w:World) (l:List Bool) (hW:Wr w lo b 0 l 0) (hb:b<lo) (hlo:lo≤w.heap.size) (hlen:l.length<1000000000) (hL:L<32) (hn:n<32) (hN:n+1=N):
  Calls Tryz.prog 212 #[.agg #[.int .i64 (L:Int),.int .i64 (N:Int)],.pointer (some ⟨b,0,none⟩)] w fun e w'=>e= .returned (.tuple #[])∧Wr w' lo b 0 (l++bitsOf L 5++bitsOf n 5) 0∧qJ b 0 123 w w':=by
 have q1:(N:Int)-1=(n:Int):=by omega
 have r1:IntKind.u64.wrap (L:Int)=(L:Int):=by rw [IntKind.wrap_u64];omega
 have r2:IntKind.u64.wrap (n:Int)=(n:Int):=by rw [IntKind.wrap_u64];omega
 have r3:IntKind.i64.wrap (n:Int)=(n:Int):=by rw [IntKind.wrap_i64];omega
 have HLn:=qA (And.intro hL hn)
 have HLEN:=qA hlen
 have B0:Below w.heap.size w (w.alloc (.cells #[.int .i64 (L:Int),.int .i64 (N:Int)] 215)):=(Below.refl _ w).alloc (Nat.le_refl _) _
 have HM:Hid (Wr (w.alloc (.cells #[.int .i64 (L:Int),.int .i64 (N:Int)] 215)) lo b 0 l 0∧qJ b 0 123 w (w.alloc (.cells #[.int .i64 (L:Int),.int .i64 (N:Int)] 215))∧
   (w.alloc (.cells #[.int .i64 (L:Int),.int .i64 (N:Int)] 215)).heap[w.heap.size]?=some (.cells #[.int .i64 (L:Int),.int .i64 (N:Int)] 215 (0,0))):=
  ⟨hW.below B0,(qJ.refl b 0 123 w).alloc (by omega) _,heap_alloc_new w _⟩
 clear B0 hW hlen hN hL hn
 go_enter Tryz.func212,Tryz.ntmps212
 go_wp2_with fail
 generalize w.alloc (.cells #[.int .i64 (L:Int),.int .i64 (N:Int)] 215)=w0 at*
 have c0:w0.cell? ⟨w.heap.size,0,none⟩=some (.int .i64 (L:Int)):=by rw [cell_of_row _ _ _ _ _ _ HM.out.2.2];rfl
 have c1:w0.cell? ⟨w.heap.size,1,none⟩=some (.int .i64 (N:Int)):=by rw [cell_of_row _ _ _ _ _ _ HM.out.2.2];rfl
 have HS:Hid (w.heap.size<w0.heap.size∧lo≤w.heap.size∧b<lo):=⟨qB HM.out.2.2,hlo,hb⟩
 obtain ⟨G,hG⟩:∃G,w.heap.size=G:=⟨_,rfl⟩
 rw [hG] at c0 c1 HS hlo⊢
 have HG:=qA hG
 clear hG
 have HMd:Hid (Wr w0.drew lo b 0 l 0):=HM.out.1.below (w':=w0.drew) ⟨rfl,rfl,rfl,Nat.le_refl _,fun _ _=>rfl⟩
 go_region_held3 (fun w'=>w'.cell? ⟨G,0,none⟩=some (.int .i64 (L:Int))∧w'.cell? ⟨G,1,none⟩=some (.int .i64 (N:Int))) (first|exact ⟨d0,d1⟩|exact ⟨c0,c1⟩)
  (first|(go_at_call 218;go_must (refine (zE _).mono ?_);rintro _ wy ⟨rfl,rfl⟩)|(go_at_call 44;go_must (refine (qK b 0 lo 5 L _ l HMd.out HS.out.2.2 (show lo≤w0.drew.heap.size from Nat.le_trans HS.out.2.1 (Nat.le_of_lt HS.out.1)) (by have:=HLEN.out;omega) (by omega) (by have:=HLn.out;omega) (by have:=HLn.out;omega)).mono ?_);rintro _ w1 ⟨rfl,W1,O1⟩;(have d0:w1.cell? ⟨G,0,none⟩=some (.int .i64 (L:Int)):=by rw [World.cell?_of_block (O1.block G HS.out.1 (by have:=HS.out;omega))];exact c0);(have d1:w1.cell? ⟨G,1,none⟩=some (.int .i64 (N:Int)):=by rw [World.cell?_of_block (O1.block G HS.out.1 (by have:=HS.out;omega))];exact c1)))
 have HO1:Hid (qJ b 0 123 w w1∧w0.heap.size≤w1.heap.size):=⟨HM.out.2.1.drew.trans O1,O1.size⟩
 have HW1:Hid (Wr w1.drew lo b 0 (l++bitsOf L 5) 0):=W1.below (w':=w1.drew) ⟨rfl,rfl,rfl,Nat.le_refl _,fun _ _=>rfl⟩
 clear W1 O1 HMd
 go_wp2_with fail
 go_region_held3 (fun w'=>w'.cell? ⟨G,0,none⟩=some (.int .i64 (L:Int))∧w'.cell? ⟨G,1,none⟩=some (.int .i64 (N:Int))) (first|exact ⟨d0,d1⟩|exact ⟨d0,d1⟩)
  (first|(go_at_call 218;go_must (refine (zE _).mono ?_);rintro _ wy ⟨rfl,rfl⟩)|(go_at_call 44;go_must (refine (qK b 0 lo 5 n _ _ HW1.out HS.out.2.2 (show lo≤w1.drew.heap.size from Nat.le_trans HS.out.2.1 (Nat.le_trans (Nat.le_of_lt HS.out.1) HO1.out.2)) (by have:=HLEN.out;simp;omega) (by omega) (by have:=HLn.out;omega) (by have:=HLn.out;omega)).mono ?_);rintro _ w2 ⟨rfl,W2,O2⟩;(have d0:w2.cell? ⟨G,0,none⟩=some (.int .i64 (L:Int)):=by rw [World.cell?_of_block (O2.block G (Nat.lt_of_lt_of_le HS.out.1 HO1.out.2) (by have:=HS.out;omega))];exact d0);(have d1:w2.cell? ⟨G,1,none⟩=some (.int .i64 (N:Int)):=by rw [World.cell?_of_block (O2.block G (Nat.lt_of_lt_of_le HS.out.1 HO1.out.2) (by have:=HS.out;omega))];exact d1)))
 go_wp2_with fail
 go_end0
 exact ⟨rfl,W2,HO1.out.1.drew.trans O2⟩
structure jA (b c:Nat) (w w':World):Prop where
 os:w'.os=w.os
 tape:w'.tape=w.tape
 output:w'.output=w.output
 size:w.heap.size≤w'.heap.size
 block:∀k,k<w.heap.size→k≠b→k≠c→w'.heap[k]?=w.heap[k]?
theorem jA.trans {b c:Nat} {u v w:World} (h:jA b c u v) (k:jA b c v w):jA b c u w:=
 ⟨k.os.trans h.os,k.tape.trans h.tape,k.output.trans h.output,Nat.le_trans h.size k.size,fun i hi h1 h2=>(k.block i (Nat.lt_of_lt_of_le hi h.size) h1 h2).trans (h.block i hi h1 h2)⟩
theorem jA.ofB {b c lo hi:Nat} {w w':World} (h:qJ b lo hi w w'):jA b c w w':=⟨h.os,h.tape,h.output,h.size,fun k hk h1 _=>h.block k hk h1⟩
theorem jA.ofC {b c lo hi:Nat} {w w':World} (h:qJ c lo hi w w'):jA b c w w':=⟨h.os,h.tape,h.output,h.size,fun k hk _ h2=>h.block k hk h2⟩
theorem jA.ofBelow {b c:Nat} {w w':World} (h:Below w.heap.size w w'):jA b c w w':=⟨h.os,h.tape,h.output,h.size,fun k hk _ _=>h.block k hk⟩
theorem jA.below {b c B:Nat} {w w':World} (h:jA b c w w') (hB:B≤b) (hC:B≤c) (hs:B≤w.heap.size):Below B w w':=
 ⟨h.os,h.tape,h.output,h.size,fun k hk=>h.block k (by omega) (by omega) (by omega)⟩
theorem jA.tab {b c:Nat} {w w':World} (h:jA b c w w') (hT:qT w) (hb:2≠b) (hc:2≠c):qT w':=fun j hj=>by
 rw [World.cell?_of_block (w:=w) (h.block _ (block_lt_of_cell (hT j hj)) hb hc)];exact hT j hj
end Go.Proofs.YtkpmalfigmimaaaGreatDoor
namespace Go.Proofs.YtkpmalfigmimaaaGreatDoor
open Go.RowKit
open M
def qC1 (b c lo v p L N:Nat) (l:List Bool) (w:World) (e:Ending) (w':World):Prop:=
 e= .returned (.tuple #[])∧Wr w' lo b 0 (l++xb 32 5 L N (v^^^p)) 0∧zC w' c v (nxt 32 5 (L,N) (v^^^p)).1 (nxt 32 5 (L,N) (v^^^p)).2∧jA b c w w'
theorem zC.setAhead {w:World} {c p L N:Nat} (h:zC w c p L N) (v:Nat):zC (w.setCell ⟨c,0,none⟩ (.int .u32 (v:Int))) c v L N:=
 ⟨qF _ _ _ _ _ h.ahead,by rw [qC _ _ _ _ _ (by omega)];exact h.lead,by rw [qC _ _ _ _ _ (by omega)];exact h.len,fun i=>by rw [qE];exact h.fz i⟩
theorem zC.setOld {w:World} {c p L N:Nat} (h:zC w c p L N) (L' N':Nat):zC ((w.setCell ⟨c,1,none⟩ (.int .i64 (L':Int))).setCell ⟨c,2,none⟩ (.int .i64 (N':Int))) c p L' N':=
 ⟨by rw [qC _ _ _ _ _ (by omega),qC _ _ _ _ _ (by omega)];exact h.ahead,by rw [qC _ _ _ _ _ (by omega)];exact qF _ _ _ _ _ h.lead,
  qF _ _ _ _ (.int .i64 (N:Int)) (by rw [qC _ _ _ _ _ (by omega)];exact h.len),fun i=>by rw [qE,qE];exact h.fz i⟩
theorem zC.other {w w':World} {c p L N b lo hi:Nat} (h:zC w c p L N) (ho:qJ b lo hi w w') (hne:c≠b):zC w' c p L N:=by
 have e:=ho.block c h.lt hne
 exact ⟨by rw [World.cell?_of_block (w:=w) e];exact h.ahead,by rw [World.cell?_of_block (w:=w) e];exact h.lead,by rw [World.cell?_of_block (w:=w) e];exact h.len,
  fun i=>by rw [World.frozen?_of_block (w:=w) (w':=w') (a:=⟨c,i,none⟩) e];exact h.fz i⟩
theorem dL {b c lo v L N H:Nat} {l:List Bool} {w w4 x wz:World} (h:Wr w4 lo b 0 l 0∧zC w4 c v L N∧jA b c w w4∧lo≤w4.heap.size∧H<w4.heap.size) (hbz:Below x.heap.size x wz)
  (hx:Below w4.heap.size w4 x:=by exact ⟨rfl,rfl,rfl,Nat.le_refl _,fun _ _=>rfl⟩):Wr wz lo b 0 l 0∧zC wz c v L N∧jA b c w wz∧lo≤wz.heap.size∧H<wz.heap.size:=by
 have B:Below w4.heap.size w4 wz:=hx.trans (hbz.mono hx.size)
 exact ⟨h.1.below B,h.2.1.below B h.2.1.lt,h.2.2.1.trans (jA.ofBelow B),Nat.le_trans h.2.2.2.1 B.size,Nat.lt_of_lt_of_le h.2.2.2.2 B.size⟩
theorem qFF (b c lo v p L N:Nat) (w:World) (l:List Bool) (hW:Wr w lo b 0 l 0) (hb:b<lo) (hc:c<lo) (hbc:c≠b) (hlo:lo≤w.heap.size) (hlen:l.length<100000000) (hC:zC w c p L N) (hw:L+N≤32) (hv:v<4294967296) (hp:p<4294967296)
  (hT:qT w) (hTb:2≠b) (hTc:2≠c):Calls Tryz.prog 183 #[.pointer (some ⟨c,0,none⟩),.pointer (some ⟨b,0,none⟩),.int .u32 (v:Int)] w (qC1 b c lo v p L N l w):=by
 obtain ⟨x,hxe⟩:∃x,x=v^^^p:=⟨_,rfl⟩
 have hx:x<4294967296:=by rw [hxe];exact xor_lt 32 v p hv hp
 have q1:bits BinOp.xor IntKind.u32 (v:Int) (p:Int)=(x:Int):=by rw [hxe];exact u32_xor_nat v p hv hp
 unfold qC1
 rw [←hxe]
 clear hxe hv hp
 have c0:=hC.ahead
 have f0:=hC.fz 0
 have O0:qJ c 0 3 w (w.setCell ⟨c,0,none⟩ (.int .u32 (v:Int))):=(qJ.refl c 0 3 w).setCell 0 (by omega) (by omega) _
 have HM:Hid (Wr (w.setCell ⟨c,0,none⟩ (.int .u32 (v:Int))) lo b 0 l 0∧zC (w.setCell ⟨c,0,none⟩ (.int .u32 (v:Int))) c v L N∧jA b c w (w.setCell ⟨c,0,none⟩ (.int .u32 (v:Int)))):=
  ⟨hW.other O0 (fun h=>hbc h.symm) hc,hC.setAhead v,jA.ofC O0⟩
 clear O0 hW hC
 have HX:=qA hx
 have HL:=qA hw
 have HLEN:=qA hlen
 have HT:=qA hT
 clear hx hw hlen hT
 by_cases x0:x=0
 ·subst x0
  go_enter Tryz.func183,Tryz.ntmps183
  go_wp2_with fail
  generalize w.setCell ⟨c,0,none⟩ (.int .u32 (v:Int))=w0 at*
  refine (yC b 0 lo false w0 l HM.out.1 hb (Nat.le_trans hlo HM.out.2.2.size) (by have:=HLEN.out;omega)).mono ?_
  rintro e w1 ⟨rfl,W1,O1⟩
  go_wp2_with fail
  refine bodyPost_ret (results_none rfl _ _ _) rfl ?_
  exact ⟨rfl,W1,HM.out.2.1.other O1 hbc,HM.out.2.2.trans (jA.ofB O1)⟩
 have x1:((x:Int) !=0)=true:=by simp;omega
 have x2:((x:Int)==0)=false:=by simp;omega
 have HX0:=qA x0
 clear x0
 go_enter Tryz.func183,Tryz.ntmps183
 go_wp2_with fail
 generalize w.setCell ⟨c,0,none⟩ (.int .u32 (v:Int))=w0 at*
 clear c0 f0
 refine (yC b 0 lo true w0 l HM.out.1 hb (Nat.le_trans hlo HM.out.2.2.size) (by have:=HLEN.out;omega)).mono ?_
 rintro e w1 ⟨rfl,W1,O1⟩
 have HM1:Hid (Wr w1 lo b 0 (l++[true]) 0∧zC w1 c v L N∧jA b c w w1):=⟨W1,HM.out.2.1.other O1 hbc,HM.out.2.2.trans (jA.ofB O1)⟩
 clear W1 O1 HM
 go_wp2_with fail
 refine (pI c v L N x w1 HM1.out.2.1 HL.out HX.out HX0.out (HM1.out.2.2.tab HT.out hTb hTc)).mono ?_
 rintro e w2 ⟨l',n',own,rfl,hb2,hP⟩
 have HP:=qA hP
 clear hP
 have HM2:Hid (Wr (w2.alloc (.cells #[.int .i64 (l':Int),.int .i64 (n':Int)] 215)) lo b 0 (l++[true]) 0∧zC (w2.alloc (.cells #[.int .i64 (l':Int),.int .i64 (n':Int)] 215)) c v L N∧jA b c w (w2.alloc (.cells #[.int .i64 (l':Int),.int .i64 (n':Int)] 215))∧
   (w2.alloc (.cells #[.int .i64 (l':Int),.int .i64 (n':Int)] 215)).heap[w2.heap.size]?=some (.cells #[.int .i64 (l':Int),.int .i64 (n':Int)] 215 (0,0))∧lo≤w2.heap.size):=by
  have B:Below w1.heap.size w1 (w2.alloc (.cells #[.int .i64 (l':Int),.int .i64 (n':Int)] 215)):=hb2.alloc hb2.size _
  exact ⟨HM1.out.1.below B,HM1.out.2.1.below B HM1.out.2.1.lt,HM1.out.2.2.trans (jA.ofBelow B),heap_alloc_new w2 _,Nat.le_trans hlo (Nat.le_trans HM1.out.2.2.size hb2.size)⟩
 clear hb2 HM1
 go_wp2_with fail
 obtain ⟨H,hH⟩:∃H,w2.heap.size=H:=⟨_,rfl⟩
 rw [hH] at HM2⊢
 generalize w2.alloc (.cells #[.int .i64 (l':Int),.int .i64 (n':Int)] 215)=w3 at*
 clear hH
 cases own with
 |false=>
  have HS:Hid (sut 32 5 L N x∧l'=L∧n'=N):=by
   rcases HP.out with ⟨_,h1,h2,h3⟩|⟨h,_⟩
   ·exact ⟨h1,h2,h3⟩
   ·cases h
  clear HP
  refine (yC b 0 lo false w3 _ HM2.out.1 hb (Nat.le_trans hlo HM2.out.2.2.1.size) (by have:=HLEN.out;simp;omega)).mono ?_
  rintro e w4 ⟨rfl,W4,O4⟩
  have hHs:H<w3.heap.size:=qB HM2.out.2.2.2.1
  have hHb:H≠b:=by have:=HM2.out.2.2.2.2;omega
  have HM4:Hid (Wr w4 lo b 0 (l++[true]++[false]) 0∧zC w4 c v L N∧jA b c w w4∧lo≤w4.heap.size∧H<w4.heap.size):=⟨W4,HM2.out.2.1.other O4 hbc,HM2.out.2.2.1.trans (jA.ofB O4),Nat.le_trans HM2.out.2.2.2.2 (Nat.le_trans (Nat.le_of_lt hHs) O4.size),Nat.lt_of_lt_of_le hHs O4.size⟩
  have d0:w4.cell? ⟨H,0,none⟩=some (.int .i64 (l':Int)):=by rw [World.cell?_of_block (O4.block H hHs hHb),cell_of_row _ _ _ _ _ _ HM2.out.2.2.2.1];rfl
  have d1:w4.cell? ⟨H,1,none⟩=some (.int .i64 (n':Int)):=by rw [World.cell?_of_block (O4.block H hHs hHb),cell_of_row _ _ _ _ _ _ HM2.out.2.2.2.1];rfl
  clear W4 O4 HM2
  have HF:Hid (l'+n'≤32∧n'≤64∧x/2^vQ l' n'<2^n'∧xb 32 5 L N x=[true,false]++bitsOf (x/2^vQ l' n') n'∧nxt 32 5 (L,N) x=(L,N)):=by
   obtain ⟨hs,rfl,rfl⟩:=HS.out
   have h1:=HL.out
   exact ⟨h1,by omega,old_fits 32 5 l' n' x HX.out h1 hs,xb_old _ _ _ _ _ HX0.out hs,by unfold nxt;rw [if_pos (.inr hs)]⟩
  have HBH:Hid (∀w,Calls Tryz.prog 200 #[.agg #[.int .i64 (l':Int),.int .i64 (n':Int)]] w fun e w'=>e= .returned (.int .i64 (vQ l' n':Int))∧Below w.heap.size w w'):=fun w=>zN l' n' w HF.out.1
  have sb64:vQ l' n'≤32:=by unfold vQ;omega
  generalize vQ l' n'=sb at*
  obtain ⟨y,hy⟩:∃y:Nat,y=x/2^sb:=⟨_,rfl⟩
  have y1:(x:Int)/2^sb=(y:Int):=by rw [hy];simp
  rw [←hy] at HF
  have HLN:Hid ((l++[true]++[false]).length+n'<1000000000000):=by
   have h1:=HLEN.out
   have h2:=HF.out.2.1
   show _<_;simp;omega
  have y2:IntKind.u64.wrap (y:Int)=(y:Int):=by
   have h1:=HX.out
   have h2:y≤x:=by rw [hy];exact Nat.div_le_self _ _
   rw [IntKind.wrap_u64];omega
  have y3:IntKind.u64.wrap ((x:Int)/2^sb)=(y:Int):=by rw [y1,y2]
  have HYM:Hid (y<18446744073709551616):=by
   have h1:=HX.out
   have h2:y≤x:=by rw [hy];exact Nat.div_le_self _ _
   show y<_;omega
  clear hy hHs
  go_wp2_with fail
  go_region_held3 (fun w'=>w'.cell? ⟨H,0,none⟩=some (.int .i64 (l':Int))∧w'.cell? ⟨H,1,none⟩=some (.int .i64 (n':Int))) (first|exact ⟨e0,e1⟩|exact ⟨d0,d1⟩)
   (first|(go_at_call 200;go_must (refine (HBH.out _).mono ?_);rintro _ wz ⟨rfl,hbz⟩;(have e0:wz.cell? ⟨H,0,none⟩=some (.int .i64 (l':Int)):=by rw [hbz.cell (p:=⟨H,0,none⟩) (block_lt_of_cell d0)];exact d0);(have e1:wz.cell? ⟨H,1,none⟩=some (.int .i64 (n':Int)):=by rw [hbz.cell (p:=⟨H,1,none⟩) (block_lt_of_cell d1)];exact d1);(have HMZ:Hid (Wr wz lo b 0 (l++[true]++[false]) 0∧zC wz c v L N∧jA b c w wz∧lo≤wz.heap.size∧H<wz.heap.size):=dL HM4.out hbz);clear hbz)|(go_at_call 44;go_must (refine (qK b 0 lo n' y _ _ HMZ.out.1 hb HMZ.out.2.2.2.1 HLN.out HF.out.2.1 HYM.out HF.out.2.2.1).mono ?_);rintro _ w5 ⟨rfl,W5,O5⟩;(have e0:w5.cell? ⟨H,0,none⟩=some (.int .i64 (l':Int)):=by rw [World.cell?_of_block (O5.block H HMZ.out.2.2.2.2 hHb)];exact e0);(have e1:w5.cell? ⟨H,1,none⟩=some (.int .i64 (n':Int)):=by rw [World.cell?_of_block (O5.block H HMZ.out.2.2.2.2 hHb)];exact e1)))
  go_wp2_with fail
  go_end0
  rw [HF.out.2.2.2.1,HF.out.2.2.2.2]
  refine ⟨rfl,?_,HMZ.out.2.1.other O5 hbc,HMZ.out.2.2.1.trans (jA.ofB O5)⟩
  have e:l++([true,false]++bitsOf y n')=l++[true]++[false]++bitsOf y n':=by simp
  rw [e];exact W5
 |true=>
  have HS:Hid (lo≤H∧¬sut 32 5 L N x∧l'=32-bitLen x∧0<n'∧n'=wl x∧l'<32∧n'≤32):=by
   rcases HP.out with ⟨h,_⟩|⟨_,h1,h2,h3⟩
   ·cases h
   ·have q1:=bitLen_le x 32 HX.out
    have q2:=wl_pos x HX0.out (lt64 (W:=32) HX.out (by omega))
    have q3:=bitLen_pos x HX0.out
    have q4:wl x=bitLen x-tz x:=rfl
    exact ⟨HM2.out.2.2.2.2,h1,h2,by omega,h3,by omega,by omega⟩
  clear HP
  refine (yC b 0 lo true w3 _ HM2.out.1 hb (Nat.le_trans hlo HM2.out.2.2.1.size) (by have:=HLEN.out;simp;omega)).mono ?_
  rintro e w6 ⟨rfl,W6,O6⟩
  have hHs:H<w3.heap.size:=qB HM2.out.2.2.2.1
  have hHb:H≠b:=by have:=HM2.out.2.2.2.2;omega
  obtain ⟨m,hm⟩:∃m,m+1=n':=⟨n'-1,by have:=HS.out.2.2.2.1;omega⟩
  have HM6:Hid (Wr w6 lo b 0 (l++[true]++[true]) 0∧zC w6 c v L N∧jA b c w w6∧lo≤w6.heap.size∧H<w6.heap.size):=⟨W6,HM2.out.2.1.other O6 hbc,HM2.out.2.2.1.trans (jA.ofB O6),Nat.le_trans HM2.out.2.2.2.2 (Nat.le_trans (Nat.le_of_lt hHs) O6.size),Nat.lt_of_lt_of_le hHs O6.size⟩
  have d0:w6.cell? ⟨H,0,none⟩=some (.int .i64 (l':Int)):=by rw [World.cell?_of_block (O6.block H hHs hHb),cell_of_row _ _ _ _ _ _ HM2.out.2.2.2.1];rfl
  have d1:w6.cell? ⟨H,1,none⟩=some (.int .i64 (n':Int)):=by rw [World.cell?_of_block (O6.block H hHs hHb),cell_of_row _ _ _ _ _ _ HM2.out.2.2.2.1];rfl
  clear W6 O6 HM2
  have HM':=qA hm
  clear hm hHs
  go_wp2_with fail
  refine (lV l' n' m b lo w6 _ HM6.out.1 hb HM6.out.2.2.2.1 (by have:=HLEN.out;simp;omega) (by have:=HS.out.2.2.2;omega) (by have:=HS.out.2.2.2;have:=HM'.out;omega) HM'.out).mono ?_
  rintro e w7 ⟨rfl,W7,O7⟩
  have C7:=HM6.out.2.1.other O7 hbc
  have d0:w7.cell? ⟨H,0,none⟩=some (.int .i64 (l':Int)):=by rw [World.cell?_of_block (O7.block H HM6.out.2.2.2.2 hHb)];exact d0
  have d1:w7.cell? ⟨H,1,none⟩=some (.int .i64 (n':Int)):=by rw [World.cell?_of_block (O7.block H HM6.out.2.2.2.2 hHb)];exact d1
  have hHc:H≠c:=by have:=HS.out.1;omega
  have O8:qJ c 0 3 w7 ((w7.setCell ⟨c,1,none⟩ (.int .i64 (l':Int))).setCell ⟨c,2,none⟩ (.int .i64 (n':Int))):=((qJ.refl c 0 3 w7).setCell 1 (by omega) (by omega) _).setCell 2 (by omega) (by omega) _
  have hH7:H<w7.heap.size:=Nat.lt_of_lt_of_le HM6.out.2.2.2.2 O7.size
  have HM4:Hid (Wr ((w7.setCell ⟨c,1,none⟩ (.int .i64 (l':Int))).setCell ⟨c,2,none⟩ (.int .i64 (n':Int))) lo b 0 (l++[true]++[true]++bitsOf l' 5++bitsOf m 5) 0∧zC ((w7.setCell ⟨c,1,none⟩ (.int .i64 (l':Int))).setCell ⟨c,2,none⟩ (.int .i64 (n':Int))) c v l' n'∧jA b c w ((w7.setCell ⟨c,1,none⟩ (.int .i64 (l':Int))).setCell ⟨c,2,none⟩ (.int .i64 (n':Int)))∧lo≤((w7.setCell ⟨c,1,none⟩ (.int .i64 (l':Int))).setCell ⟨c,2,none⟩ (.int .i64 (n':Int))).heap.size∧H<((w7.setCell ⟨c,1,none⟩ (.int .i64 (l':Int))).setCell ⟨c,2,none⟩ (.int .i64 (n':Int))).heap.size):=
   ⟨W7.other O8 (fun h=>hbc h.symm) hc,C7.setOld l' n',(HM6.out.2.2.1.trans (jA.ofB O7)).trans (jA.ofC O8),Nat.le_trans HM6.out.2.2.2.1 (Nat.le_trans O7.size O8.size),Nat.lt_of_lt_of_le hH7 O8.size⟩
  have HD:Hid (((w7.setCell ⟨c,1,none⟩ (.int .i64 (l':Int))).setCell ⟨c,2,none⟩ (.int .i64 (n':Int))).cell? ⟨H,0,none⟩=some (.int .i64 (l':Int))∧((w7.setCell ⟨c,1,none⟩ (.int .i64 (l':Int))).setCell ⟨c,2,none⟩ (.int .i64 (n':Int))).cell? ⟨H,1,none⟩=some (.int .i64 (n':Int))):=
   ⟨by rw [World.cell?_of_block (O8.block H hH7 hHc)];exact d0,by rw [World.cell?_of_block (O8.block H hH7 hHc)];exact d1⟩
  have c1:=C7.lead
  have c2:=C7.len
  have f1:=C7.fz 1
  have f2:=C7.fz 2
  clear W7 O7 O8 HM6 C7 hH7 hHc
  go_wp2_with fail
  generalize (w7.setCell ⟨c,1,none⟩ (.int .i64 (l':Int))).setCell ⟨c,2,none⟩ (.int .i64 (n':Int))=w4 at*
  clear c1 c2 f1 f2 d0 d1
  obtain ⟨d0,d1⟩:=HD.out
  have HF:Hid (l'+n'≤32∧n'≤64∧x/2^vQ l' n'<2^n'∧xb 32 5 L N x=[true,true]++bitsOf l' 5++bitsOf m 5++bitsOf (x/2^vQ l' n') n'∧nxt 32 5 (L,N) x=(l',n')):=by
   obtain ⟨hH,hs,hl,hn0,hn1,hl2,hn2⟩:=HS.out
   have hm:=HM'.out
   have q:wl x=bitLen x-tz x:=rfl
   have q1:=bitLen_le x 32 HX.out
   have q2:=tz_lt x HX0.out (lt64 (W:=32) HX.out (by omega))
   have q3:vQ l' n'=tz x:=by unfold vQ;omega
   have q4:=new_fits x HX0.out (lt64 (W:=32) HX.out (by omega))
   have q5:=xb_new 32 5 L N x HX0.out hs
   have q6:wl x=n':=by omega
   have q7:wl x-1=m:=by omega
   have q8:32-bitLen x=l':=by omega
   rw [q3]
   rw [q7,q8,q6] at q5
   rw [q6] at q4
   exact ⟨by omega,by omega,q4,q5,by unfold nxt;rw [if_neg (fun h=>h.elim HX0.out hs),q8,q6]⟩
  have HBH:Hid (∀w,Calls Tryz.prog 200 #[.agg #[.int .i64 (l':Int),.int .i64 (n':Int)]] w fun e w'=>e= .returned (.int .i64 (vQ l' n':Int))∧Below w.heap.size w w'):=fun w=>zN l' n' w HF.out.1
  have sb64:vQ l' n'≤32:=by unfold vQ;omega
  generalize vQ l' n'=sb at*
  obtain ⟨y,hy⟩:∃y:Nat,y=x/2^sb:=⟨_,rfl⟩
  have y1:(x:Int)/2^sb=(y:Int):=by rw [hy];simp
  rw [←hy] at HF
  have HLN:Hid ((l++[true]++[true]++bitsOf l' 5++bitsOf m 5).length+n'<1000000000000):=by
   have h1:=HLEN.out
   have h2:=HF.out.2.1
   show _<_;simp;omega
  have y2:IntKind.u64.wrap (y:Int)=(y:Int):=by
   have h1:=HX.out
   have h2:y≤x:=by rw [hy];exact Nat.div_le_self _ _
   rw [IntKind.wrap_u64];omega
  have y3:IntKind.u64.wrap ((x:Int)/2^sb)=(y:Int):=by rw [y1,y2]
  have HYM:Hid (y<18446744073709551616):=by
   have h1:=HX.out
   have h2:y≤x:=by rw [hy];exact Nat.div_le_self _ _
   show y<_;omega
  clear hy
  go_region_held3 (fun w'=>w'.cell? ⟨H,0,none⟩=some (.int .i64 (l':Int))∧w'.cell? ⟨H,1,none⟩=some (.int .i64 (n':Int))) (first|exact ⟨e0,e1⟩|exact ⟨d0,d1⟩)
   (first|(go_at_call 200;go_must (refine (HBH.out _).mono ?_);rintro _ wz ⟨rfl,hbz⟩;(have e0:wz.cell? ⟨H,0,none⟩=some (.int .i64 (l':Int)):=by rw [hbz.cell (p:=⟨H,0,none⟩) (block_lt_of_cell d0)];exact d0);(have e1:wz.cell? ⟨H,1,none⟩=some (.int .i64 (n':Int)):=by rw [hbz.cell (p:=⟨H,1,none⟩) (block_lt_of_cell d1)];exact d1);(have HMZ:Hid (Wr wz lo b 0 (l++[true]++[true]++bitsOf l' 5++bitsOf m 5) 0∧zC wz c v l' n'∧jA b c w wz∧lo≤wz.heap.size∧H<wz.heap.size):=dL HM4.out hbz);clear hbz)|(go_at_call 44;go_must (refine (qK b 0 lo n' y _ _ HMZ.out.1 hb HMZ.out.2.2.2.1 HLN.out HF.out.2.1 HYM.out HF.out.2.2.1).mono ?_);rintro _ w5 ⟨rfl,W5,O5⟩;(have e0:w5.cell? ⟨H,0,none⟩=some (.int .i64 (l':Int)):=by rw [World.cell?_of_block (O5.block H HMZ.out.2.2.2.2 hHb)];exact e0);(have e1:w5.cell? ⟨H,1,none⟩=some (.int .i64 (n':Int)):=by rw [World.cell?_of_block (O5.block H HMZ.out.2.2.2.2 hHb)];exact e1)))
  go_wp2_with fail
  go_end0
  rw [HF.out.2.2.2.1,HF.out.2.2.2.2]
  refine ⟨rfl,?_,HMZ.out.2.1.other O5 hbc,HMZ.out.2.2.1.trans (jA.ofB O5)⟩
  have e:l++([true,true]++bitsOf l' 5++bitsOf m 5++bitsOf y n')=l++[true]++[true]++bitsOf l' 5++bitsOf m 5++bitsOf y n':=by simp
  rw [e];exact W5
end Go.Proofs.YtkpmalfigmimaaaGreatDoor
namespace Go.Proofs.YtkpmalfigmimaaaGreatDoor
namespace Flt
open Ieee
def V (f:Format) (r:Nat):Nat:=if r<f.binade then r else (f.binade+r%f.binade)*2^(r/f.binade-1)
theorem binade_pos (f:Format):0<f.binade:=Nat.two_pow_pos _
theorem V_step (f:Format) (r:Nat):V f (r+1)=V f r+2^(r/f.binade-1):=by
 have hb:=binade_pos f
 unfold V
 generalize f.binade=B at*
 by_cases h1:r+1<B
 ·have h2:r<B:=by omega
  have h3:r/B=0:=Nat.div_eq_of_lt h2
  simp [h1,h2,h3]
 ·by_cases h2:r<B
  ·have h3:r+1=B:=by omega
   have h4:r/B=0:=Nat.div_eq_of_lt h2
   rw [if_neg h1,if_pos h2,h3,h4,Nat.mod_self,Nat.div_self hb]
   simp;omega
  ·rw [if_neg h1,if_neg h2]
   have hd:=Nat.div_add_mod r B
   have hm:=Nat.mod_lt r hb
   have hq:0<r/B:=Nat.div_pos (by omega) hb
   by_cases h5:r%B+1=B
   ·have e1:r+1=B*(r/B+1):=by rw [Nat.mul_add];omega
    have e2:(r+1)%B=0:=by rw [e1];exact Nat.mul_mod_right ..
    have e3:(r+1)/B=r/B+1:=by rw [e1];exact Nat.mul_div_cancel_left _ hb
    rw [e2,e3]
    obtain ⟨q,hq⟩:∃q,r/B=q+1:=⟨r/B-1,by omega⟩
    rw [hq]
    simp only [Nat.add_sub_cancel]
    have:B+r%B=2*B-1:=by omega
    rw [this,Nat.pow_succ,Nat.sub_mul,Nat.add_zero,Nat.one_mul]
    have:2^q≤2*B*2^q:=Nat.le_mul_of_pos_left _ (by omega)
    rw [Nat.sub_add_cancel this,Nat.mul_comm (2^q) 2,←Nat.mul_assoc,Nat.mul_comm B 2]
   ·have e2:(r+1)%B=r%B+1:=by
     have:r+1=(r%B+1)+B*(r/B):=by omega
     rw [this,Nat.add_mul_mod_self_left];exact Nat.mod_eq_of_lt (by omega)
    have e3:(r+1)/B=r/B:=by
     have:r+1=(r%B+1)+B*(r/B):=by omega
     rw [this,Nat.add_mul_div_left _ _ hb,Nat.div_eq_of_lt (by omega),Nat.zero_add]
    rw [e2,e3,←Nat.add_assoc,Nat.add_mul (B+r%B),Nat.one_mul]
theorem V_lt {f:Format} {r s:Nat} (h:r<s):V f r<V f s:=by
 induction s with
 |zero=>omega
 |succ n ih=>
  have:=V_step f n
  have hp:0<2^(n/f.binade-1):=Nat.two_pow_pos _
  rcases Nat.lt_or_ge r n with h1|h1
  ·have:=ih h1;omega
  ·have:r=n:=by omega
   subst this;omega
theorem V_le {f:Format} {r s:Nat} (h:r≤s):V f r≤V f s:=by
 rcases Nat.lt_or_ge r s with h1|h1
 ·exact Nat.le_of_lt (V_lt h1)
 ·have:r=s:=by omega
  subst this;exact Nat.le_refl _
theorem V_lt_iff {f:Format} {r s:Nat}:V f r<V f s↔r<s:=by
 refine ⟨fun h=>?_,V_lt⟩
 rcases Nat.lt_or_ge r s with h1|h1
 ·exact h1
 ·have:=V_le (f:=f) h1;omega
theorem V_inj {f:Format} {r s:Nat} (h:V f r=V f s):r=s:=by
 rcases Nat.lt_trichotomy r s with h1|h1|h1
 ·have:=V_lt (f:=f) h1;omega
 ·exact h1
 ·have:=V_lt (f:=f) h1;omega
theorem V_zero (f:Format):V f 0=0:=by
 unfold V;rw [if_pos (binade_pos f)]
end Flt
end Go.Proofs.YtkpmalfigmimaaaGreatDoor
