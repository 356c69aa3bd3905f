import Derived.Test.YtkpmalfigmimaaaGreatDoorP1F64
import Derived.Deep.Cut
set_option linter.unusedVariables false
set_option linter.unusedSimpArgs false
set_option maxRecDepth 100000
set_option maxHeartbeats 8000000
namespace Go.Proofs.YtkpmalfigmimaaaGreatDoor
open Go.RowKit
open M
def qJ1 (w:World) (b:Nat) (s:ByteArray) (a:Nat) (e0:Int) (e:Ending) (w':World):Prop:=
 ∃(l n N a':Nat) (e1:Int),e= .returned (.agg #[.int .i64 (l:Int),.int .i64 (N:Int)])∧n+1=N∧l<64∧n<64∧Tk w w' b 0 s a e0 a' e1 (bitsOf l 6++bitsOf n 6)
theorem mL (b:Nat) (s:ByteArray) (a:Nat) (e0:Int) (w:World) (h:Rd w b 0 s a e0):
  Calls Tryz.prog 207 #[.pointer (some ⟨b,0,none⟩)] w (qJ1 w b s a e0):=by
 have hbs:b<w.heap.size:=block_lt_of_cell h.text
 have HM:Hid (Rd (w.alloc (.cells #[.int .i64 0,.int .i64 0] 224)) b 0 s a e0∧qJ b 0 3 w (w.alloc (.cells #[.int .i64 0,.int .i64 0] 224))∧
   (w.alloc (.cells #[.int .i64 0,.int .i64 0] 224)).heap[w.heap.size]?=some (.cells #[.int .i64 0,.int .i64 0] 224 (0,0))):=
  ⟨h.below ((Below.refl _ w).alloc (Nat.le_refl _) _) hbs,(qJ.refl b 0 3 w).alloc hbs _,heap_alloc_new w _⟩
 have ha:=qA h.le
 clear h
 go_enter Tryz.func207,Tryz.ntmps207
 go_wp2_with fail
 generalize w.alloc (.cells #[.int .i64 0,.int .i64 0] 224)=w0 at*
 refine (zF _).mono ?_
 rintro e wy ⟨rfl,hwy⟩
 have hwy:=hwy.symm
 subst hwy
 go_wp2_with fail
 refine (kT b 0 s a 6 e0 _ HM.out.1 (by omega)).mono ?_
 rintro e w1 ⟨l,a1,e1,rfl,hl,T1⟩
 have hl':l<64:=hl
 have l1:wrap64 (l:Int)=(l:Int):=by unfold wrap64;omega
 have l2:IntKind.i64.wrap (l:Int)=(l:Int):=by rw [IntKind.wrap_i64];omega
 go_wp2_with fail
 refine (zF _).mono ?_
 rintro e wy ⟨rfl,hwy⟩
 have hwy:=hwy.symm
 subst hwy
 go_wp2_with fail
 refine (kT b 0 s a1 6 e1 _ T1.rd (by omega)).mono ?_
 rintro e w2 ⟨n,a2,e2,rfl,hn,T2⟩
 have hn':n<64:=hn
 obtain ⟨N,hN⟩:∃N,n+1=N:=⟨_,rfl⟩
 have n1:wrap64 (n:Int)=(n:Int):=by unfold wrap64;omega
 have n2:IntKind.i64.wrap (n:Int)=(n:Int):=by rw [IntKind.wrap_i64];omega
 have n3:(n:Int)+1=(N:Int):=by omega
 have n4:wrap64 (N:Int)=(N:Int):=by unfold wrap64;omega
 have O2:qJ b 0 3 w0 w2:=T1.only.trans T2.only
 have hs0:=qB HM.out.2.2
 have hGb:w.heap.size≠b:=by omega
 have g0:w2.cell? ⟨w.heap.size,0,none⟩=some (.int .i64 0):=by rw [World.cell?_of_block (O2.block w.heap.size hs0 hGb),cell_of_row _ _ _ _ _ _ HM.out.2.2];rfl
 have g1:w2.cell? ⟨w.heap.size,1,none⟩=some (.int .i64 0):=by rw [World.cell?_of_block (O2.block w.heap.size hs0 hGb),cell_of_row _ _ _ _ _ _ HM.out.2.2];rfl
 have f0:w2.frozen? ⟨w.heap.size,0,none⟩=false:=by rw [World.frozen?_of_block (w:=w0) (w':=w2) (a:=⟨w.heap.size,0,none⟩) (O2.block w.heap.size hs0 hGb)];exact frozen_of_row _ _ _ _ _ HM.out.2.2
 have f1:w2.frozen? ⟨w.heap.size,1,none⟩=false:=by rw [World.frozen?_of_block (w:=w0) (w':=w2) (a:=⟨w.heap.size,1,none⟩) (O2.block w.heap.size hs0 hGb)];exact frozen_of_row _ _ _ _ _ HM.out.2.2
 have HTT:=qA (T1.trans ha.out T2)
 have HN:=qA (And.intro hN (And.intro hl' hn'))
 clear T1 T2 O2 hl hn hl' hn' hN
 go_wp2_with fail
 obtain ⟨r0,r1⟩:=uR (v:= .int .i64 (l:Int)) (v':= .int .i64 (N:Int)) g0 g1
 refine bodyPost_ret (v:= .agg #[.int .i64 (l:Int),.int .i64 (N:Int)]) (by
  have r2:=qF w2 w.heap.size 0 (.int .i64 (l:Int)) _ g0
  have r3:=qF (w2.setCell ⟨w.heap.size,0,none⟩ (.int .i64 (l:Int))) w.heap.size 1 (.int .i64 (N:Int)) (.int .i64 0) (by rw [qC _ _ _ _ _ (by omega)];exact g1)
  simp [results,Tryz.results207,go_sem,r0,r1,r2,r3]) rfl ?_
 refine ⟨l,n,N,a2,e2,rfl,HN.out.1,HN.out.2.1,HN.out.2.2,(HTT.out.rd.setOther' w.heap.size 0 hGb _).setOther' w.heap.size 1 hGb _,?_,HTT.out.sound,HTT.out.full⟩
 exact ((HM.out.2.1.trans HTT.out.only).setOther' w.heap.size 0 (Nat.le_refl _) hGb _).setOther' w.heap.size 1 (Nat.le_refl _) hGb _
end Go.Proofs.YtkpmalfigmimaaaGreatDoor
namespace Go.Proofs.YtkpmalfigmimaaaGreatDoor
open Go.RowKit
open M
theorem yL {w w':World} {b off:Nat} {s:ByteArray} {a a':Nat} {e1:Int} {laid X r:List Bool} (T:Tk w w' b off s a 0 a' e1 laid) (ha:a≤8*s.size) (h:(rb s).drop a=X++r) (hl:laid.length≤X.length):
  e1=0∧∃r',X++r=laid++r':=by
 have h1:=congrArg List.length h
 rw [List.length_drop,jN,List.length_append] at h1
 have e:e1=0:=by
  by_cases h0:laid.length=0
  ·exact T.full rfl (by rw [jN];omega)
  ·exact T.full rfl (by rw [jN];omega)
 exact ⟨e,_,by rw [←h];exact take_eq_drop' _ _ _ _ (T.sound e).2⟩
theorem rC (W K L N y:Nat) (h0:y≠0):∃t,xb W K L N y=true::(!decide (sut W K L N y))::t:=by
 by_cases h:sut W K L N y
 ·rw [xb_old _ _ _ _ _ h0 h];exact ⟨_,by simp [h];rfl⟩
 ·rw [xb_new _ _ _ _ _ h0 h];exact ⟨_,by simp [h];rfl⟩
theorem qBY {w w':World} {b off:Nat} {s:ByteArray} {a a':Nat} {e1:Int} {L N y:Nat} {r:List Bool} (T:Tk w w' b off s a 0 a' e1 [false]) (ha:a≤8*s.size) (h:(rb s).drop a=xb 64 6 L N y++r):e1=0∧y=0:=by
 by_cases h0:y=0
 ·subst h0
  exact ⟨(yL T ha h (by simp [xb_0])).1,rfl⟩
 ·obtain ⟨t,ht⟩:=rC 64 6 L N y h0
  obtain ⟨h1,r',h2⟩:=yL T ha h (by rw [ht];simp)
  rw [ht] at h2
  simp at h2
theorem xI {w w':World} {b off:Nat} {s:ByteArray} {a a':Nat} {e1:Int} {L N y:Nat} {v:Bool} {r:List Bool} (hr:(rb s).drop a=true::r) (T:Tk w w' b off s a 0 a' e1 [true,v]) (ha:a≤8*s.size) {r2:List Bool} (h:(rb s).drop a=xb 64 6 L N y++r2):
  e1=0∧y≠0∧(v=true↔¬sut 64 6 L N y):=by
 have h0:y≠0:=by
  rintro rfl
  rw [h,xb_0] at hr
  simp at hr
 obtain ⟨t,ht⟩:=rC 64 6 L N y h0
 obtain ⟨h1,r',h2⟩:=yL T ha h (by rw [ht];simp)
 rw [ht] at h2
 simp only [List.cons_append,List.nil_append,List.cons.injEq,true_and] at h2
 refine ⟨h1,h0,?_⟩
 rw [←h2.1]
 by_cases hs:sut 64 6 L N y<;>simp [hs]
theorem qDO {w w':World} {b off:Nat} {s:ByteArray} {a a':Nat} {e1:Int} {L N y v:Nat} {r:List Bool} (T:Tk w w' b off s a 0 a' e1 ([true,false]++bitsOf v N)) (ha:a≤8*s.size) (hy:y<18446744073709551616) (hw:L+N≤64) (hv:v<2^N)
  (h0:y≠0) (hs:sut 64 6 L N y) (h:(rb s).drop a=xb 64 6 L N y++r):e1=0∧v*2^(64-L-N)=y:=by
 have h':=h
 rw [xb_old _ _ _ _ _ h0 hs] at h'
 obtain ⟨h1,r',h2⟩:=yL T ha h' (by simp)
 refine ⟨h1,?_⟩
 simp only [List.cons_append,List.nil_append,List.cons.injEq,true_and] at h2
 have h3:=(pbits_inj _ _ _ _ _ (old_fits 64 6 L N y hy hw hs) hv h2).1
 rw [←h3]
 exact cut_back y _ h0 (lt64 (W:=64) hy (by omega)) hs.2.2.1
theorem dR {w w':World} {b off:Nat} {s:ByteArray} {a a':Nat} {e1:Int} {L N y l n:Nat} {r:List Bool} (T:Tk w w' b off s a 0 a' e1 ([true,true]++(bitsOf l 6++bitsOf n 6))) (ha:a≤8*s.size) (hy:y<18446744073709551616) (hl:l<64) (hn:n<64)
  (h0:y≠0) (hs:¬sut 64 6 L N y) (h:(rb s).drop a=xb 64 6 L N y++r):e1=0∧l=64-bitLen y∧n+1=wl y:=by
 have h':=h
 rw [xb_new _ _ _ _ _ h0 hs] at h'
 have hy6:=lt64 (W:=64) hy (by omega)
 have q1:=bitLen_le y 64 hy
 have q2:=bitLen_pos y h0
 have q3:=wl_pos y h0 hy6
 have q4:wl y≤64:=by unfold wl;omega
 obtain ⟨h1,r',h2⟩:=yL T ha h' (by simp;omega)
 refine ⟨h1,?_⟩
 simp only [List.cons_append,List.nil_append,List.cons.injEq,true_and,List.append_assoc] at h2
 obtain ⟨h3,h4⟩:=pbits_inj _ _ 6 _ _ (by omega) (by omega) h2
 obtain ⟨h5,h6⟩:=pbits_inj _ _ 6 _ _ (by omega) (by omega) h4
 omega
theorem qDS {w w':World} {b off:Nat} {s:ByteArray} {a a':Nat} {e1:Int} {L N y l n v m:Nat} {r:List Bool} (T:Tk w w' b off s a 0 a' e1 ([true,true]++(bitsOf l 6++bitsOf n 6)++bitsOf v m)) (ha:a≤8*s.size) (hy:y<18446744073709551616) (hv:v<2^m)
  (h0:y≠0) (hs:¬sut 64 6 L N y) (h:(rb s).drop a=xb 64 6 L N y++r) (el:l=64-bitLen y) (en:n+1=wl y) (em:m=n+1):e1=0∧v*2^(64-l-m)=y:=by
 have h':=h
 have hy6:=lt64 (W:=64) hy (by omega)
 have q1:=bitLen_le y 64 hy
 have q2:=tz_lt y h0 hy6
 have q3:wl y=bitLen y-tz y:=rfl
 have em':wl y=m:=by omega
 rw [xb_new _ _ _ _ _ h0 hs,show 64-bitLen y=l from el.symm,show wl y-1=n from by omega,em'] at h'
 obtain ⟨h1,r',h2⟩:=yL T ha h' (by simp)
 refine ⟨h1,?_⟩
 simp only [List.cons_append,List.nil_append,List.cons.injEq,true_and,List.append_assoc,List.append_cancel_left_eq] at h2
 have h3:=(pbits_inj _ _ _ _ _ (by rw [←em'];exact new_fits y h0 hy6) hv h2).1
 rw [←h3,show 64-l-m=tz y from by omega]
 exact cut_back y _ h0 hy6 (Nat.le_refl _)
theorem vD (L N v:Nat) (hw:L+N≤64) (hv:v<2^N):v*2^(64-L-N)<18446744073709551616∧v*2^(64-L-N)/2^(64-L-N)=v:=by
 refine ⟨?_,Nat.mul_div_cancel _ (Nat.two_pow_pos _)⟩
 have h1:v*2^(64-L-N)<2^N*2^(64-L-N):=(Nat.mul_lt_mul_right (Nat.two_pow_pos _)).2 hv
 rw [←Nat.pow_add] at h1
 exact Nat.lt_of_lt_of_le h1 (Nat.le_trans (Nat.pow_le_pow_right (by omega) (show N+(64-L-N)≤64 by omega)) (by decide))
theorem bU {w1 w3:World} {b:Nat} {s:ByteArray} {a1 a2:Nat} {e2:Int} {l:List Bool} {H:Nat} {u u' v v':Value} (T:Tk w1 w3 b 0 s a1 0 a2 e2 l) (hH:w1.heap.size≤H) (hHb:H≠b) (hs:H<w3.heap.size)
  (g0:w3.cell? ⟨H,0,none⟩=some u) (g1:w3.cell? ⟨H,1,none⟩=some u') (hf:∀i,w3.frozen? ⟨H,i,none⟩=false):
  Tk w1 ((w3.setCell ⟨H,0,none⟩ v).setCell ⟨H,1,none⟩ v') b 0 s a1 0 a2 e2 l∧H<((w3.setCell ⟨H,0,none⟩ v).setCell ⟨H,1,none⟩ v').heap.size∧
   ((w3.setCell ⟨H,0,none⟩ v).setCell ⟨H,1,none⟩ v').cell? ⟨H,0,none⟩=some v∧((w3.setCell ⟨H,0,none⟩ v).setCell ⟨H,1,none⟩ v').cell? ⟨H,1,none⟩=some v'∧
   ∀i,((w3.setCell ⟨H,0,none⟩ v).setCell ⟨H,1,none⟩ v').frozen? ⟨H,i,none⟩=false:=by
 obtain ⟨r0,r1⟩:=uR (v:=v) (v':=v') g0 g1
 refine ⟨⟨(T.rd.setOther' H 0 hHb _).setOther' H 1 hHb _,(T.only.setOther' H 0 hH hHb _).setOther' H 1 hH hHb _,T.sound,T.full⟩,by simp [World.setCell];exact hs,r0,r1,fun i=>by rw [qE,qE];exact hf i⟩
theorem jI (w:World) (g i c j:Nat) (v:Value) (h:g≠c):(w.setCell ⟨g,i,none⟩ v).cell? ⟨c,j,none⟩=w.cell? ⟨c,j,none⟩:=
 World.cell?_of_block (Below.heap_setCell _ _ _ _ (fun e=>h e.symm))
theorem Tk.more64 {w w' w2:World} {b off:Nat} {s:ByteArray} {a a':Nat} {e0 e1:Int} {laid:List Bool} (T:Tk w w' b off s a e0 a' e1 laid) (hB:Below w'.heap.size w' w2):Tk w w2 b off s a e0 a' e1 laid:=by
 have hb:b<w'.heap.size:=block_lt_of_cell T.rd.text
 refine ⟨T.rd.below hB hb,T.only.trans ⟨hB.os,hB.tape,hB.output,hB.size,fun k hk _=>hB.block k hk,fun j _=>World.cell?_of_block (hB.block b hb),fun j=>World.frozen?_of_block (w:=w') (w':=w2) (a:=⟨b,j,none⟩) (hB.block b hb)⟩,T.sound,T.full⟩
theorem vK {x:Nat} (h:x<18446744073709551616):IntKind.u64.wrap (x:Int)=(x:Int):=by rw [IntKind.wrap_u64];omega
theorem rA {v n:Nat} (h:v<2^n) (hn:n≤64):IntKind.u64.wrap (v:Int)=(v:Int):=vK (Nat.lt_of_lt_of_le h (Nat.le_trans (Nat.pow_le_pow_right (by omega) hn) (by decide)))
def nI (w:World) (b c:Nat) (s:ByteArray) (a:Nat) (e0:Int) (p L N:Nat) (e:Ending) (w':World):Prop:=
 ∃(ok:Bool) (x a':Nat) (e1:Int),e= .returned (.bool ok)∧Rd w' b 0 s a' e1∧jB b c w w'∧x<18446744073709551616∧
  (ok=true→zD w' c (p^^^x) (nxt 64 6 (L,N) x).1 (nxt 64 6 (L,N) x).2∧(e1=0→e0=0∧(rb s).take a'=(rb s).take a++xb 64 6 L N x))∧
  (e0=0→∀y r,y<18446744073709551616→(rb s).drop a=xb 64 6 L N y++r→ok=true∧x=y∧e1=0)
end Go.Proofs.YtkpmalfigmimaaaGreatDoor
