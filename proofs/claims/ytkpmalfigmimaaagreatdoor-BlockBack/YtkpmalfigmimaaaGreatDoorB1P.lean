import Derived.Test.YtkpmalfigmimaaaGreatDoorProg
import Derived.Test.YtkpmalfigmimaaaGreatDoorD1M
import Derived.WalkKit
import Derived.WalkSpells
import Derived.WalkLawsBesides
import Derived.Deep.QuietTactic
import Derived.BigQuiet
import Derived.BigRegion
import Derived.Deep.MidRow
import Derived.Deep.RegionHeldLaw
set_option linter.unusedVariables false
set_option linter.unusedSimpArgs false
set_option maxRecDepth 100000
set_option maxHeartbeats 8000000
namespace Go.Proofs.YtkpmalfigmimaaaGreatDoor
open Go.RowKit
open M
theorem xN (k:Nat) (w:World) (h1:k≤8):
  Calls Tryz.prog 92 #[.int .i64 k] w fun e w'=>e= .returned (.int .u8 (255/2^(8-k)))∧w'=w:=by
 go_enter Tryz.func92,Tryz.ntmps92
 go_wp2
 go_ret
 exact ⟨rfl,rfl⟩
structure Raw (w:World) (b off:Nat) (p:Option Addr) (f:Nat→Nat) (n:Nat) (e:Int):Prop where
 full:w.cell? ⟨b,off,none⟩=some (.pointer p)
 last:∀j,j<120→w.cell? ⟨b,off+1+j,none⟩=some (.int .u8 (f j))
 len:w.cell? ⟨b,off+121,none⟩=some (.int .i64 n)
 err:w.cell? ⟨b,off+122,none⟩=some (.int .i64 e)
 fz:∀j,j<123→w.frozen? ⟨b,off+j,none⟩=false
structure qJ (b lo hi:Nat) (w w':World):Prop where
 os:w'.os=w.os
 tape:w'.tape=w.tape
 output:w'.output=w.output
 size:w.heap.size≤w'.heap.size
 block:∀k,k<w.heap.size→k≠b→w'.heap[k]?=w.heap[k]?
 cell:∀j,(j<lo∨hi≤j)→w'.cell? ⟨b,j,none⟩=w.cell? ⟨b,j,none⟩
 frozen:∀j,w'.frozen? ⟨b,j,none⟩=w.frozen? ⟨b,j,none⟩
theorem qJ.refl (b lo hi:Nat) (w:World):qJ b lo hi w w:=⟨rfl,rfl,rfl,Nat.le_refl _,fun _ _ _=>rfl,fun _ _=>rfl,fun _=>rfl⟩
theorem qJ.trans {b lo hi:Nat} {u v w:World} (h:qJ b lo hi u v) (k:qJ b lo hi v w):qJ b lo hi u w:=
 ⟨k.os.trans h.os,k.tape.trans h.tape,k.output.trans h.output,Nat.le_trans h.size k.size,
  fun i hi hb=>(k.block i (Nat.lt_of_lt_of_le hi h.size) hb).trans (h.block i hi hb),fun j hj=>(k.cell j hj).trans (h.cell j hj),fun j=>(k.frozen j).trans (h.frozen j)⟩
theorem qJ.drew {b lo hi:Nat} {u w:World} (h:qJ b lo hi u w):qJ b lo hi u w.drew:=⟨h.os,h.tape,h.output,h.size,h.block,h.cell,h.frozen⟩
theorem qJ.drewN {b lo hi:Nat} {u w:World} (h:qJ b lo hi u w) (n:Nat):qJ b lo hi u (w.drewN n):=⟨h.os,h.tape,h.output,h.size,h.block,h.cell,h.frozen⟩
theorem qJ.alloc {b lo hi:Nat} {u w:World} (h:qJ b lo hi u w) (hb:b<w.heap.size) (o:Obj):qJ b lo hi u (w.alloc o):=by
 refine h.trans ⟨rfl,rfl,rfl,by simp,fun k hk _=>Below.heap_alloc _ _ _ hk,fun j _=>?_,fun j=>?_⟩
 ·exact World.cell?_of_block (w:=w) (Below.heap_alloc _ _ _ hb)
 ·exact World.frozen?_of_block (w:=w) (Below.heap_alloc _ _ _ hb)
theorem qC (w:World) (b i j:Nat) (v:Value) (h:j≠i):(w.setCell ⟨b,i,none⟩ v).cell? ⟨b,j,none⟩=w.cell? ⟨b,j,none⟩:=by
 simp only [World.cell?,World.setCell,Array.getElem?_modify]
 simp only [if_true]
 cases w.heap[b]? with
 |none=>rfl
 |some o=>
       cases o<;>simp
       rw [Array.getElem?_setIfInBounds_ne (by omega)]
theorem qF (w:World) (b i:Nat) (v u:Value) (h:w.cell? ⟨b,i,none⟩=some u):(w.setCell ⟨b,i,none⟩ v).cell? ⟨b,i,none⟩=some v:=by
 simp only [World.cell?,World.setCell,Array.getElem?_modify] at h⊢
 simp only [if_true]
 cases hb:w.heap[b]? with
 |none=>simp [hb] at h
 |some o=>
       cases o<;>simp [hb] at h⊢
       rename_i c e f
       have hi:i<c.size:=by
        rcases Nat.lt_or_ge i c.size with h1|h1
        ·exact h1
        ·simp [h1] at h
       simp [hi]
theorem qE (w:World) (a:Addr) (v:Value) (p:Addr):(w.setCell a v).frozen? p=w.frozen? p:=by
 simp only [World.frozen?,World.setCell,Array.getElem?_modify]
 by_cases h:a.block=p.block
 ·rw [if_pos h]
  cases w.heap[p.block]? with
  |none=>rfl
  |some o=>cases o<;>simp
 ·rw [if_neg h]
theorem qJ.setCell {b lo hi:Nat} {u w:World} (h:qJ b lo hi u w) (i:Nat) (h1:lo≤i) (h2:i<hi) (v:Value):qJ b lo hi u (w.setCell ⟨b,i,none⟩ v):=by
 refine h.trans ⟨rfl,rfl,rfl,by simp [World.setCell],fun k _ hb=>Below.heap_setCell _ _ _ _ hb,fun j hj=>qC _ _ _ _ _ (by omega),fun j=>qE _ _ _ _⟩
theorem Raw.drewN {w:World} {b off:Nat} {p:Option Addr} {f:Nat→Nat} {n:Nat} {e:Int} (h:Raw w b off p f n e) (m:Nat):Raw (w.drewN m) b off p f n e:=⟨h.full,h.last,h.len,h.err,h.fz⟩
theorem Raw.setLast {w:World} {b off:Nat} {p:Option Addr} {f:Nat→Nat} {n:Nat} {e:Int} (h:Raw w b off p f n e) (q v:Nat) (hq:q<120):
  Raw (w.setCell ⟨b,off+1+q,none⟩ (.int .u8 v)) b off p (fun j=>if j=q then v else f j) n e:=by
 refine ⟨?_,fun j hj=>?_,?_,?_,fun j hj=>?_⟩
 ·rw [qC _ _ _ _ _ (by omega)];exact h.full
 ·by_cases e1:j=q
  ·subst e1;rw [qF _ _ _ _ _ (h.last j hj)];simp
  ·rw [qC _ _ _ _ _ (by omega),h.last j hj];simp [e1]
 ·rw [qC _ _ _ _ _ (by omega)];exact h.len
 ·rw [qC _ _ _ _ _ (by omega)];exact h.err
 ·rw [qE];exact h.fz j hj
theorem Raw.setLen {w:World} {b off:Nat} {p:Option Addr} {f:Nat→Nat} {n:Nat} {e:Int} (h:Raw w b off p f n e) (m:Nat):
  Raw (w.setCell ⟨b,off+121,none⟩ (.int .i64 m)) b off p f m e:=by
 refine ⟨?_,fun j hj=>?_,?_,?_,fun j hj=>?_⟩
 ·rw [qC _ _ _ _ _ (by omega)];exact h.full
 ·rw [qC _ _ _ _ _ (by omega),h.last j hj]
 ·exact qF _ _ _ _ _ h.len
 ·rw [qC _ _ _ _ _ (by omega)];exact h.err
 ·rw [qE];exact h.fz j hj
theorem qJ.setCells {b lo hi:Nat} (vs:List Value):∀{u w:World} (o:Nat),qJ b lo hi u w→lo≤o→o+vs.length≤hi→qJ b lo hi u (w.setCells b o vs):=by
 induction vs with
 |nil=>intro u w o h _ _;exact h
 |cons v vs ih=>
  intro u w o h h1 h2
  simp only [List.length_cons] at h2
  exact ih (o+1) (h.setCell o h1 (by omega) v) (by omega) (by omega)
def mC (w:World) (c:Nat) (q:Option Addr) (f:Nat→Nat):Prop:=
 w.cell? ⟨c,0,none⟩=some (.pointer q)∧∀j,j<120→w.cell? ⟨c,1+j,none⟩=some (.int .u8 (f j))
theorem qDK {w:World} {b off:Nat} {p:Option Addr} {f:Nat→Nat} {n:Nat} {e:Int} (h:Raw w b off p f n e) (cs:List Value) (hcs:cs=(List.range 120).map fun j=>Value.int .u8 (f j)) (w':World)
  (hw:w'=(((w.setCell ⟨b,off,none⟩ (.pointer (some ⟨w.heap.size,0,none⟩))).alloc (.cells (.pointer p::cs).toArray 130)).drew).setCells b (off+1) (List.replicate 120 (Value.int .u8 0))):
  Raw w' b off (some ⟨w.heap.size,0,none⟩) (fun _=>0) n e∧mC w' w.heap.size p f∧qJ b off (off+123) w w'∧w.heap.size<w'.heap.size:=by
 have hbs:b<w.heap.size:=block_lt_of_cell h.full
 generalize hw1:((w.setCell ⟨b,off,none⟩ (.pointer (some ⟨w.heap.size,0,none⟩))).alloc (.cells (.pointer p::cs).toArray 130)).drew=w1 at hw
 have o1:qJ b off (off+123) w w1:=by
  rw [←hw1]
  exact (((qJ.refl b off (off+123) w).setCell off (Nat.le_refl _) (by omega) _).alloc (by simpa [World.setCell] using hbs) _).drew
 have hcell:∀i,i≠off→w1.cell? ⟨b,i,none⟩=w.cell? ⟨b,i,none⟩:=fun i hi=>by
  rw [←hw1,←qC w b off i (.pointer (some ⟨w.heap.size,0,none⟩)) hi]
  exact World.cell?_of_block (w:=w.setCell ⟨b,off,none⟩ _) (Below.heap_alloc _ _ _ (by simpa [World.setCell] using hbs))
 have hoff:w1.cell? ⟨b,off,none⟩=some (.pointer (some ⟨w.heap.size,0,none⟩)):=by
  rw [←hw1,←qF w b off (.pointer (some ⟨w.heap.size,0,none⟩)) _ h.full]
  exact World.cell?_of_block (w:=w.setCell ⟨b,off,none⟩ _) (Below.heap_alloc _ _ _ (by simpa [World.setCell] using hbs))
 have hnew:w1.heap[w.heap.size]?=some (.cells (.pointer p::cs).toArray 130 (0,0)):=by
  rw [←hw1]
  have:=heap_alloc_new (w.setCell ⟨b,off,none⟩ (.pointer (some ⟨w.heap.size,0,none⟩))) (.cells (.pointer p::cs).toArray 130)
  have e:(w.setCell ⟨b,off,none⟩ (.pointer (some ⟨w.heap.size,0,none⟩))).heap.size=w.heap.size:=by simp [World.setCell]
  rw [e] at this
  exact this
 have hs1:w.heap.size<w1.heap.size:=by
  rw [←hw1];simp [World.setCell]
 have o2:qJ b off (off+123) w w':=by rw [hw];exact o1.setCells _ _ (by omega) (by simp)
 have hout:∀x:Addr,(x.block=b→x.spot=none→x.off<off+1∨off+121≤x.off)→w'.cell? x=w1.cell? x:=fun x hx=>by
  rw [hw];exact World.cell?_setCells_out b _ _ _ _ (by simpa using hx)
 refine ⟨⟨?_,fun j hj=>?_,?_,?_,fun j hj=>?_⟩,⟨?_,fun j hj=>?_⟩,o2,?_⟩
 ·rw [hout _ (fun _ _=>by left;simp)];exact hoff
 ·rw [hw,World.cell?_setCells_in b _ _ _ (fun i hi=>by rw [hcell _ (by omega),h.last i (by simpa using hi)];rfl) j (by simpa using hj),List.getElem_replicate];rfl
 ·rw [hout _ (fun _ _=>by right;simp),hcell _ (by omega)];exact h.len
 ·rw [hout _ (fun _ _=>by right;simp),hcell _ (by omega)];exact h.err
 ·rw [o2.frozen];exact h.fz j hj
 ·rw [hout _ (fun hb _=>by simp at hb;omega),cell_of_row _ _ _ _ _ _ hnew];rfl
 ·rw [hout _ (fun hb _=>by simp at hb;omega),cell_of_row _ _ _ _ _ _ hnew,hcs,Nat.add_comm 1 j];simp [hj]
 ·have:=o2.size;have e:w1.heap.size≤w'.heap.size:=by rw [hw];exact ((qJ.refl b (off+1) (off+121) w1).setCells _ _ (Nat.le_refl _) (by simp)).size
  omega
theorem qF8 (cs:List Value):∀(k:Nat) (A:Array Value) (o:Nat),o+k+cs.length≤A.size→
  (cs.zipIdx k).foldl (fun a x=>a.setIfInBounds (o+x.2) x.1) A=(A.toList.take (o+k)++cs++A.toList.drop (o+k+cs.length)).toArray:=by
 induction cs with
 |nil=>intro k A o h;simp
 |cons c cs ih=>
  intro k A o h
  simp only [List.length_cons] at h
  rw [List.zipIdx_cons,List.foldl_cons,ih (k+1) _ o (by simp;omega)]
  congr 1
  simp only [Array.toList_setIfInBounds,List.length_cons]
  have e1:(A.toList.set (o+k) c).take (o+(k+1))=A.toList.take (o+k)++[c]:=by
   rw [show o+(k+1)=(o+k)+1 from by omega,List.take_succ_eq_append_getElem (by simp;omega)]
   simp [List.take_set_of_le]
  have e2:(A.toList.set (o+k) c).drop (o+(k+1)+cs.length)=A.toList.drop (o+k+(cs.length+1)):=by
   rw [List.drop_set_of_lt (by omega),show o+(k+1)+cs.length=o+k+(cs.length+1) from by omega]
  rw [e1,e2];simp
theorem nW (q:Option Addr) (cs:List Value) (h:cs.length=120) (w:World):
  (Instr.build 130 #[(0,.pointer q),(1,.agg cs.toArray)]).run Tryz.prog w= .ok (.agg (.pointer q::cs).toArray) w:=by
 have hz:(zeroValue 130).run Tryz.prog w= .ok (.agg (Value.pointer none::List.replicate 120 (Value.int .u8 0)).toArray) w:=by kernel_rfl
 have hs1:(sizeOf 95).run Tryz.prog w= .ok 1 w:=by kernel_rfl
 have hs2:(sizeOf 96).run Tryz.prog w= .ok 120 w:=by kernel_rfl
 have hf:=qF8 cs 0 (Value.pointer q::List.replicate 120 (Value.int .u8 0)).toArray 1 (by simp [h])
 unfold Instr.build
 rw [Sem.run_bind,hz]
 simp only [Result.andThen_ok]
 rw [Sem.run_bind,run_underlying Tryz.underlying130 w]
 simp only [Result.andThen_ok]
 simp [hs1,Instr.fill,Value.cells,h]
 refine hf.trans ?_
 rw [h,List.drop_eq_nil_of_le (by simp),List.append_nil]
 rfl
theorem dG (q:Option Addr) (cs:List Value) (h:cs.length=120) {o:Oper} {ρ:Operand→Value} (ho:o.op= .build 130 #[(0,.tmp 6),(1,.tmp 10)]) (h6:ρ (.tmp 6)= .pointer q) (h10:ρ (.tmp 10)= .agg cs.toArray) (w:World):
  (execOp ρ o).run Tryz.prog w= .ok (.value (.agg (.pointer q::cs).toArray)) w:=by
 unfold execOp
 rw [ho]
 simp [h6,h10,nW q cs h]
theorem gA {P:Program} {ops:Array Oper} {op:Oper} {a:Act} {w:World} {K:Act→World→Prop} {Q:Exit→Act→World→Prop} {E:Prop}
  (hg:op.guard=none) (ty:TypeId) (x:Operand) (ho:op.op= .load ty x) (b o:Nat) (hx:a.eval x= .pointer (some ⟨b,o,none⟩)) (cs:List Value) (d:TypeDesc) (hc:w.rangeAt b o cs)
  (hu:P.underlying ty=some d) (hd:d.isRow=true) (hi:(P.info? ty).map (·.size)=some cs.length) (h:K (a.put op.dst (.agg cs.toArray)) w):
  if Region.wanted op (yielded ops a.tmps)=true then Oper.wp P op a w K Q else E:=by
 have hw:Region.wanted op (yielded ops a.tmps)=true:=by simp [Region.wanted,hg]
 rw [if_pos hw]
 exact wp_load_mid ty x ho b o hx cs d hc hu hd hi h
theorem lS (b off:Nat) (p:Option Addr) (f:Nat→Nat) (n:Nat) (e0:Int) (w:World) (h:Raw w b off p f n e0):
  Calls Tryz.prog 93 #[.pointer (some ⟨b,off,none⟩)] w fun e w'=>e= .returned (.tuple #[])∧
   Raw w' b off (some ⟨w.heap.size,0,none⟩) (fun _=>0) n e0∧mC w' w.heap.size p f∧qJ b off (off+123) w w'∧w.heap.size<w'.heap.size:=by
 have h1:=h.full
 have h2:=h.fz 0 (by omega)
 simp only [Nat.add_zero] at h2
 obtain ⟨cs,hcd,hcs,hr⟩:∃cs:List Value,Hid (cs=(List.range 120).map fun j=>Value.int .u8 (f j))∧cs.length=120∧w.rangeAt b (off+1) cs:=⟨(List.range 120).map fun j=>Value.int .u8 (f j),rfl,by simp,fun j v hj=>by
  rw [List.getElem?_map,Option.map_eq_some_iff] at hj
  obtain ⟨i,hi,rfl⟩:=hj
  rw [List.getElem?_eq_some_iff] at hi
  obtain ⟨hi,rfl⟩:=hi
  simp at hi⊢
  exact h.last j hi⟩
 have hu24:Tryz.prog.underlying 96=some (.array 120 5):=Tryz.underlying96
 have hi24:(Tryz.prog.info? 96).map (·.size)=some cs.length:=by rw [hcs];kernel_rfl
 have hb:=nW p cs hcs
 have hbs:b<w.heap.size:=block_lt_of_cell h1
 go_enter Tryz.func93,Tryz.ntmps93
 go_wp2
 refine Code.wp_mono (Q:=fun e a w'=>e= .normal∧a=⟨#[.pointer (some ⟨b,off,none⟩),undef,.pointer (some ⟨b,off,none⟩),.pointer (some ⟨b,off,none⟩),.pointer (some ⟨b,off,none⟩),.pointer (some ⟨b,off,none⟩),.pointer p,
  .pointer (some ⟨b,off,none⟩),.pointer (some ⟨b,off,none⟩),.pointer (some ⟨b,off+1,none⟩),.agg cs.toArray,.agg (.pointer p::cs).toArray,.pointer (some ⟨w.heap.size,0,none⟩),.pointer (some ⟨b,off,none⟩),.pointer (some ⟨b,off,none⟩),undef,undef,undef,undef],[]⟩∧
  w'=((w.setCell ⟨b,off,none⟩ (.pointer (some ⟨w.heap.size,0,none⟩))).alloc (.cells (.pointer p::cs).toArray 130)).drew) ?_ ?_
 ·rintro e a w' ⟨rfl,rfl,rfl⟩
  have hz24:∀w:World,(Instr.build 96 #[]).run Tryz.prog w= .ok (.agg (List.replicate 120 (Value.int .u8 0)).toArray) w:=fun _=>by kernel_rfl
  have hz25:∀w:World,(zeroValue 96).run Tryz.prog w= .ok (.agg (List.replicate 120 (Value.int .u8 0)).toArray) w:=fun _=>by kernel_rfl
  generalize hW1:((w.setCell ⟨b,off,none⟩ (.pointer (some ⟨w.heap.size,0,none⟩))).alloc (.cells (.pointer p::cs).toArray 130)).drew=W1
  have HW1:Hid (((w.setCell ⟨b,off,none⟩ (.pointer (some ⟨w.heap.size,0,none⟩))).alloc (.cells (.pointer p::cs).toArray 130)).drew=W1):=hW1
  clear hW1
  go_wp2_with (refine wpList_store_mid rfl 96 _ _ rfl b (off+1) (List.replicate 120 (Value.int .u8 0)).toArray rfl rfl ?_ ?_ ?_ ?_)
  ·intro j hj
   simp only [List.size_toArray,List.length_replicate] at hj
   have e1:W1.cell? ⟨b,off+1+j,none⟩=w.cell? ⟨b,off+1+j,none⟩:=by
    rw [←HW1.out,←qC w b off (off+1+j) (.pointer (some ⟨w.heap.size,0,none⟩)) (by omega)]
    exact World.cell?_of_block (w:=w.setCell ⟨b,off,none⟩ _) (Below.heap_alloc _ _ _ (by simpa [World.setCell] using hbs))
   have e2:W1.frozen? ⟨b,off+1+j,none⟩=w.frozen? ⟨b,off+1+j,none⟩:=by
    rw [←HW1.out,←qE w ⟨b,off,none⟩ (.pointer (some ⟨w.heap.size,0,none⟩))]
    exact World.frozen?_of_block (w:=w.setCell ⟨b,off,none⟩ _) (Below.heap_alloc _ _ _ (by simpa [World.setCell] using hbs))
   rw [e1,e2,h.last j hj,show off+1+j=off+(1+j) from by omega,h.fz (1+j) (by omega)]
   exact ⟨rfl,rfl⟩
  ·kernel_rfl
  ·kernel_rfl
  ·go_wp2
   go_end0
   exact ⟨rfl,qDK h cs hcd.out _ (by rw [←HW1.out];rfl)⟩
 ·rename_i Q1 K1 hc1
  clear hc1 K1 Q1
  refine wp_region_any (by kernel_rfl) ?_
  change wpAny _ _ _ _ _ _ _ (World.drew _)
  refine wpAny_take (i:=0) (v:=?_) rfl (by kernel_rfl) (by kernel_rfl) (by kernel_rfl) (fun _ _ _ h=>absurd h.1 (by simp)) (Or.inl ⟨by rfl,?_⟩) ?_
  rotate_left
  ·intro w;go_simp;with_reducible rfl
  refine wpAny_take (i:=1) (v:=?_) rfl (by kernel_rfl) (by kernel_rfl) (by kernel_rfl) (fun _ _ _ h=>absurd h.1 (by simp)) (Or.inl ⟨by rfl,?_⟩) ?_
  rotate_left
  ·intro w;go_simp;with_reducible rfl
  refine wpAny_take (i:=2) (v:=?_) rfl (by kernel_rfl) (by kernel_rfl) (by kernel_rfl) (fun _ _ _ h=>absurd h.1 (by simp)) (Or.inl ⟨by rfl,?_⟩) ?_
  rotate_left
  ·intro w;go_simp;with_reducible rfl
  refine wpAny_take (i:=3) (v:=?_) rfl (by kernel_rfl) (by kernel_rfl) (by kernel_rfl) (fun _ _ _ h=>absurd h.1 (by simp)) (Or.inl ⟨by rfl,?_⟩) ?_
  rotate_left
  ·intro w;go_simp;with_reducible rfl
  refine wpAny_take (i:=5) (v:=?_) rfl (by kernel_rfl) (by kernel_rfl) (by kernel_rfl) (fun _ _ _ h=>absurd h.1 (by simp)) (Or.inl ⟨by rfl,?_⟩) ?_
  rotate_left
  ·intro w;go_simp;with_reducible rfl
  refine wpAny_take (i:=6) (v:=?_) rfl (by kernel_rfl) (by kernel_rfl) (by kernel_rfl) (fun _ _ _ h=>absurd h.1 (by simp)) (Or.inl ⟨by rfl,?_⟩) ?_
  rotate_left
  ·intro w;go_simp;with_reducible rfl
  refine wpAny_take (i:=7) (v:=?_) rfl (by kernel_rfl) (by kernel_rfl) (by kernel_rfl) (fun _ _ _ h=>absurd h.1 (by simp)) (Or.inl ⟨by rfl,?_⟩) ?_
  rotate_left
  ·intro w;go_simp;with_reducible rfl
  change wpAny _ _ _ _ _ _ ⟨#[.pointer (some ⟨b,off,none⟩),undef,.pointer (some ⟨b,off,none⟩),.pointer (some ⟨b,off,none⟩),.pointer (some ⟨b,off,none⟩),.pointer (some ⟨b,off,none⟩),undef,
   .pointer (some ⟨b,off,none⟩),.pointer (some ⟨b,off,none⟩),.pointer (some ⟨b,off+1,none⟩),undef,undef,undef,undef,undef,undef,undef,undef,undef],[]⟩ _
  refine wpAny_ready (rs:=[4,8]) (by kernel_rfl) (by simp) ?_
  refine AllReady.cons rfl (fun K hK=>?_) (AllReady.cons rfl (fun K hK=>?_) AllReady.nil)
  ·go_simp
   refine hK _ _ ?_
   clear hK K
   refine wpAny_ready (rs:=[8]) (by kernel_rfl) (by simp) ?_
   refine AllReady.cons rfl (fun K hK=>?_) AllReady.nil
   refine gA rfl 96 _ rfl b (off+1) rfl cs _ hr hu24 rfl hi24 ?_
   refine hK _ _ ?_
   clear hK K
   refine wpAny_take (i:=9) (v:= .agg (.pointer p::cs).toArray) rfl (by kernel_rfl) (by kernel_rfl) (by kernel_rfl) (fun _ _ _ h=>absurd h.1 (by simp)) (Or.inl ⟨by rfl,?_⟩) ?_
   ·intro w;exact dG p cs hcs rfl rfl rfl w
   refine wpAny_ready (rs:=[10]) (by kernel_rfl) (by simp) ?_
   refine AllReady.cons rfl (fun K hK=>?_) AllReady.nil
   go_simp
   refine hK _ _ ?_
   clear hK K
   refine wpAny_ready (rs:=[11]) (by kernel_rfl) (by simp) ?_
   refine AllReady.cons rfl (fun K hK=>?_) AllReady.nil
   go_simp
   refine hK _ _ ?_
   clear hK K
   refine wpAny_ready (rs:=[12]) (by kernel_rfl) (by simp) ?_
   refine AllReady.cons rfl (fun K hK=>?_) AllReady.nil
   go_simp
   refine hK _ _ ?_
   clear hK K
   refine wpAny_ready (rs:=[13]) (by kernel_rfl) (by simp) ?_
   refine AllReady.cons rfl (fun K hK=>?_) AllReady.nil
   go_simp
   refine hK _ _ ?_
   clear hK K
   refine wpAny_done (by kernel_rfl) ?_ _
   exact ⟨rfl,rfl,rfl⟩
  ·refine gA rfl 96 _ rfl b (off+1) rfl cs _ hr hu24 rfl hi24 ?_
   refine hK _ _ ?_
   clear hK K
   refine wpAny_ready (rs:=[4]) (by kernel_rfl) (by simp) ?_
   refine AllReady.cons rfl (fun K hK=>?_) AllReady.nil
   go_simp
   refine hK _ _ ?_
   clear hK K
   refine wpAny_take (i:=9) (v:= .agg (.pointer p::cs).toArray) rfl (by kernel_rfl) (by kernel_rfl) (by kernel_rfl) (fun _ _ _ h=>absurd h.1 (by simp)) (Or.inl ⟨by rfl,?_⟩) ?_
   ·intro w;exact dG p cs hcs rfl rfl rfl w
   refine wpAny_ready (rs:=[10]) (by kernel_rfl) (by simp) ?_
   refine AllReady.cons rfl (fun K hK=>?_) AllReady.nil
   go_simp
   refine hK _ _ ?_
   clear hK K
   refine wpAny_ready (rs:=[11]) (by kernel_rfl) (by simp) ?_
   refine AllReady.cons rfl (fun K hK=>?_) AllReady.nil
   go_simp
   refine hK _ _ ?_
   clear hK K
   refine wpAny_ready (rs:=[12]) (by kernel_rfl) (by simp) ?_
   refine AllReady.cons rfl (fun K hK=>?_) AllReady.nil
   go_simp
   refine hK _ _ ?_
   clear hK K
   refine wpAny_ready (rs:=[13]) (by kernel_rfl) (by simp) ?_
   refine AllReady.cons rfl (fun K hK=>?_) AllReady.nil
   go_simp
   refine hK _ _ ?_
   clear hK K
   refine wpAny_done (by kernel_rfl) ?_ _
   exact ⟨rfl,rfl,rfl⟩
end Go.Proofs.YtkpmalfigmimaaaGreatDoor
namespace Go.Proofs.YtkpmalfigmimaaaGreatDoor
open Go.RowKit
open M
def zS (s:ByteArray):List Nat:=s.data.toList.map UInt8.toNat
@[simp] theorem qGY (s:ByteArray):(zS s).length=s.size:=by simp [zS]
structure Rd (w:World) (b off:Nat) (s:ByteArray) (a:Nat) (e:Int):Prop where
 text:w.cell? ⟨b,off,none⟩=some (.string s)
 at_:w.cell? ⟨b,off+1,none⟩=some (.int .i64 a)
 err:w.cell? ⟨b,off+2,none⟩=some (.int .i64 e)
 fz:∀j,j<3→w.frozen? ⟨b,off+j,none⟩=false
 size:s.size≤1000000000000
 le:a≤8*s.size
theorem Rd.drewN {w:World} {b off:Nat} {s:ByteArray} {a:Nat} {e:Int} (h:Rd w b off s a e) (n:Nat):Rd (w.drewN n) b off s a e:=⟨h.text,h.at_,h.err,h.fz,h.size,h.le⟩
theorem xQ (b off:Nat) (s:ByteArray) (w:World) (h:w.cell? ⟨b,off,none⟩=some (.string s)) (hs:s.size≤1000000000000):
  Calls Tryz.prog 106 #[.pointer (some ⟨b,off,none⟩)] w fun e w'=>e= .returned (.int .i64 ((8*s.size:Nat):Int))∧w'=w:=by
 go_enter Tryz.func106,Tryz.ntmps106
 go_wp2
 go_ret
 exact ⟨by simp;omega,rfl⟩
theorem kL (b off:Nat) (s:ByteArray) (a:Nat) (e0:Int) (w:World) (h:Rd w b off s a e0):
  Calls Tryz.prog 95 #[.pointer (some ⟨b,off,none⟩)] w fun e w'=>e= .returned (.int .i64 ((8*s.size-a:Nat):Int))∧∃n,w'=w.drewN n:=by
 have h1:=h.text
 have h2:=h.at_
 have h3:=h.size
 have h4:=h.le
 go_enter Tryz.func95,Tryz.ntmps95
 go_wp2_with fail
 go_quiet ((go_at_call 106;exact Calls.quiet_of_same (xQ b off s _ h1 h3)))
 go_wp2
 go_ret
 exact ⟨by simp;omega,_,rfl⟩
theorem uQ (b off:Nat) (m:Int) (w:World) (hn:w.cell? ⟨b,off+2,none⟩=some (.int .i64 0)) (hf:w.frozen? ⟨b,off+2,none⟩=false):
  Calls Tryz.prog 94 #[.pointer (some ⟨b,off,none⟩),.int .i64 m] w fun e w'=>e= .returned (.tuple #[])∧w'=w.setCell ⟨b,off+2,none⟩ (.int .i64 m):=by
 go_enter Tryz.func94,Tryz.ntmps94
 go_wp2
 go_end0
 exact ⟨rfl,rfl⟩
theorem bV (b off:Nat) (m e0:Int) (w:World) (hn:w.cell? ⟨b,off+2,none⟩=some (.int .i64 e0)) (hf:(e0==0)=false):
  Calls Tryz.prog 94 #[.pointer (some ⟨b,off,none⟩),.int .i64 m] w fun e w'=>e= .returned (.tuple #[])∧w'=w:=by
 go_enter Tryz.func94,Tryz.ntmps94
 go_wp2
 go_end0
 exact ⟨rfl,rfl⟩
end Go.Proofs.YtkpmalfigmimaaaGreatDoor
namespace Go.Proofs.YtkpmalfigmimaaaGreatDoor
open Go.RowKit
open M
def xD (w:World) (lo:Nat) (l:List Bool):Nat→Option Addr→Prop
 |0,p=>p=none
 |k+1,p=>∃c q,p=some ⟨c,0,none⟩∧lo≤c∧mC w c q (fun j=>byteAt l (120*k+j))∧xD w lo l k q
def Wr (w:World) (lo b off:Nat) (l:List Bool) (e:Int):Prop:=
 ∃p,Raw w b off p (fun j=>byteAt l (120*(l.length/960)+j)) l.length e∧xD w lo l (l.length/960) p
theorem mC.congr {w:World} {c:Nat} {q:Option Addr} {f g:Nat→Nat} (h:mC w c q f) (e:∀j,j<120→f j=g j):mC w c q g:=
 ⟨h.1,fun j hj=>by rw [←e j hj];exact h.2 j hj⟩
theorem Raw.congr {w:World} {b off:Nat} {p:Option Addr} {f g:Nat→Nat} {n m:Nat} {e:Int} (h:Raw w b off p f n e) (he:∀j,j<120→f j=g j) (hn:n=m):Raw w b off p g m e:=by
 subst hn
 exact ⟨h.full,fun j hj=>by rw [←he j hj];exact h.last j hj,h.len,h.err,h.fz⟩
theorem mC.lt {w:World} {c:Nat} {q:Option Addr} {f:Nat→Nat} (h:mC w c q f):c<w.heap.size:=block_lt_of_cell h.1
theorem mC.only {w w':World} {c:Nat} {q:Option Addr} {f:Nat→Nat} (h:mC w c q f) {b o1 o2:Nat} (ho:qJ b o1 o2 w w') (hc:c≠b):mC w' c q f:=by
 have e:=ho.block c h.lt hc
 exact ⟨by rw [World.cell?_of_block (w:=w) e];exact h.1,fun j hj=>by rw [World.cell?_of_block (w:=w) e];exact h.2 j hj⟩
theorem xD.only {w w':World} {lo:Nat} {l:List Bool} {b o1 o2:Nat} (ho:qJ b o1 o2 w w') (hb:b<lo):∀{k:Nat} {p:Option Addr},xD w lo l k p→xD w' lo l k p
 |0,_,h=>h
 |_+1,_,⟨c,q,hp,hc,hk,hr⟩=>⟨c,q,hp,hc,hk.only ho (by omega),xD.only ho hb hr⟩
theorem xD.append {w:World} {lo:Nat} {l:List Bool} (m:List Bool):∀{k:Nat} {p:Option Addr},960*k≤l.length→xD w lo l k p→xD w lo (l++m) k p
 |0,_,_,h=>h
 |k+1,_,hl,⟨c,q,hp,hc,hk,hr⟩=>⟨c,q,hp,hc,hk.congr fun j hj=>(byteAt_full l m _ (by omega)).symm,xD.append m (by omega) hr⟩
theorem qCD (x n kk:Nat) (h:kk≤8) (hk:0<kk):bits BinOp.and IntKind.u8 ((x:Int)/2^n%256) (255/2^(8-kk))=((x/2^n%2^kk:Nat):Int):=by
 have e1:((x:Int)/2^n%256)=((x/2^n%256:Nat):Int):=by simp
 generalize hy:x/2^n%256=y at e1
 have hy2:y<256:=by omega
 rw [e1]
 have e2:x/2^n%2^kk=y%2^kk:=by
  rw [←hy,show (256:Nat)=2^kk*2^(8-kk) from by rw [←Nat.pow_add,show kk+(8-kk)=8 from by omega],Nat.mod_mul_right_mod]
 rw [e2]
 have h8:kk=1∨kk=2∨kk=3∨kk=4∨kk=5∨kk=6∨kk=7∨kk=8:=by omega
 have hm:=fun i (hi:i≤8)=>bits_mask .u8 8 (by decide) wraps_u8 i hi (y:Int) (by omega) (by omega)
 rcases h8 with rfl|rfl|rfl|rfl|rfl|rfl|rfl|rfl
 ·simpa using hm 1 (by omega)
 ·simpa using hm 2 (by omega)
 ·simpa using hm 3 (by omega)
 ·simpa using hm 4 (by omega)
 ·simpa using hm 5 (by omega)
 ·simpa using hm 6 (by omega)
 ·simpa using hm 7 (by omega)
 ·simpa using hm 8 (by omega)
theorem qKV (v part room kk:Nat) (hv:v%2^room=0) (hv2:v<256) (hp:part<2^kk) (hk:kk≤room) (hr:room≤8):
  bits BinOp.or IntKind.u8 (v:Int) ((part:Int)*2^(room-kk)%256)=((v+part*2^(room-kk):Nat):Int):=by
 have h1:part*2^(room-kk)<2^room:=by
  calc part*2^(room-kk)<2^kk*2^(room-kk):=Nat.mul_lt_mul_of_pos_right hp (Nat.pos_of_ne_zero (by simp))
   _=2^room:=by rw [←Nat.pow_add,Nat.add_sub_cancel' hk]
 have h2:(2:Nat)^room≤2^8:=Nat.pow_le_pow_right (by omega) hr
 have e1:((part:Int)*2^(room-kk)%256)=((part*2^(room-kk):Nat):Int):=by
  have:((part:Int)*2^(room-kk))=((part*2^(room-kk):Nat):Int):=by simp
  rw [this];omega
 rw [e1]
 generalize part*2^(room-kk)=y at*
 rw [bits_join .u8 8 (by decide) wraps_u8 room (v:Int) (y:Int) (by omega) (by exact_mod_cast hv) (by omega) (by omega) (by exact_mod_cast h1) (by omega)]
 simp
theorem pM {wr:World} {b off:Nat} {p:Option Addr} {L:List Bool} {len q room kk part v:Nat} (hR:Raw wr b off p (fun j=>byteAt L (120*(len/960)+j)) len 0) (hl:L.length=len)
  (hq:(len:Int)%960/8=(q:Int)) (hroom:(8:Int)-(len:Int)%8=(room:Int)) (hk:kk≤room) (m:List Bool) (hm:m.length=kk) (hp:num m=part)
  (hv:byteAt L (120*(len/960)+q)=v) (z:Int) (hz:z=(part:Int)*2^(room-kk)%256) (nq:Nat):
  Raw (((wr.drewN nq).setCell ⟨b,off+1+q,none⟩ (.int .u8 (bits BinOp.or IntKind.u8 (v:Int) z))).setCell ⟨b,off+121,none⟩ (.int .i64 ((len:Int)+kk))) b off p (fun j=>byteAt (L++m) (120*(len/960)+j)) (L++m).length 0∧
   qJ b off (off+123) wr (((wr.drewN nq).setCell ⟨b,off+1+q,none⟩ (.int .u8 (bits BinOp.or IntKind.u8 (v:Int) z))).setCell ⟨b,off+121,none⟩ (.int .i64 ((len:Int)+kk))):=by
 have hq':120*(len/960)+q=len/8:=by omega
 have hqlt:q<120:=by omega
 have hdiv:L.length=8*(len/8)+len%8:=by omega
 have hr':room=8-len%8:=by omega
 have hvm:v%2^room=0:=by rw [←hv,hq',hr'];exact byteAt_mod L _ _ hdiv (by omega)
 have hpl:part<2^kk:=by rw [←hp,←hm];exact num_lt m
 rw [hz,qKV v part room kk hvm (by rw [←hv];exact byteAt_lt _ _) hpl hk (by omega)]
 refine ⟨?_,((((qJ.refl b off (off+123) wr).drewN nq).setCell _ (by omega) (by omega) _).setCell _ (by omega) (by omega) _)⟩
 have h1:=((hR.drewN nq).setLast q (v+part*2^(room-kk)) hqlt).setLen (len+kk)
 rw [show ((len+kk:Nat):Int)=(len:Int)+kk from by omega] at h1
 refine h1.congr (fun j hj=>?_) (by simp;omega)
 by_cases e:j=q
 ·subst e
  simp only [if_true]
  rw [hq',byteAt_here L m _ _ hdiv (by omega) (by omega),←hv,hq',hp,hm,hr']
 ·simp only [if_neg e]
  by_cases h2:j<q
  ·rw [byteAt_full L m _ (by omega)]
  ·rw [byteAt_beyond L _ (by omega),byteAt_beyond (L++m) _ (by simp;omega)]
theorem qLQ {wr w2:World} {lo b off:Nat} {p:Option Addr} {L m:List Bool} (hC:xD wr lo L (L.length/960) p)
  (hR:Raw w2 b off p (fun j=>byteAt (L++m) (120*(L.length/960)+j)) (L++m).length 0) (hO:qJ b off (off+123) wr w2) (hb:b<lo) (he:(L++m).length/960=L.length/960):Wr w2 lo b off (L++m) 0:=by
 refine ⟨p,?_,?_⟩
 ·rw [he];exact hR
 ·rw [he];exact xD.append m (by omega) (xD.only hO hb hC)
theorem qLV {wr w2 w3:World} {lo b off c:Nat} {p:Option Addr} {L m:List Bool} (hC:xD wr lo L (L.length/960) p) (hO:qJ b off (off+123) wr w2) (hO2:qJ b off (off+123) w2 w3) (hb:b<lo) (hc:lo≤c)
  (hR:Raw w3 b off (some ⟨c,0,none⟩) (fun _=>0) (L++m).length 0) (hK:mC w3 c p (fun j=>byteAt (L++m) (120*(L.length/960)+j)))
  (he:(L++m).length=960*(L.length/960+1)):Wr w3 lo b off (L++m) 0:=by
 have e:(L++m).length/960=L.length/960+1:=by omega
 refine ⟨some ⟨c,0,none⟩,?_,?_⟩
 ·rw [e];exact hR.congr (fun j _=>(byteAt_beyond _ _ (by omega)).symm) rfl
 ·rw [e];exact ⟨c,p,rfl,hc,hK,xD.append m (by omega) (xD.only hO2 hb (xD.only hO hb hC))⟩
theorem qFO (l:List Bool) (x n n' kk:Nat) (hk:n'+kk≤n):l++bitsOf (x/2^(n'+kk)) (n-(n'+kk))++bitsOf (x/2^n') kk=l++bitsOf (x/2^n') (n-n'):=by
 rw [List.append_assoc]
 congr 1
 have:=bitsOf_split (x/2^n') (n-(n'+kk)) kk
 rw [show n-(n'+kk)+kk=n-n' from by omega,Nat.div_div_eq_div_mul,←Nat.pow_add] at this
 exact this.symm
theorem bS (b off lo:Nat) (n x:Nat) (w:World) (l:List Bool) (hW:Wr w lo b off l 0) (hb:b<lo) (hlo:lo≤w.heap.size)
  (hlen:l.length+n<1000000000000) (hn64:n≤64) (hx:x<18446744073709551616)
  :
  Calls Tryz.prog 74 #[.pointer (some ⟨b,off,none⟩),.int .u64 x,.int .i64 n] w fun e w'=>e= .returned (.tuple #[])∧Wr w' lo b off (l++bitsOf x n) 0∧qJ b off (off+123) w w':=by
 have he:w.cell? ⟨b,off+122,none⟩=some (.int .i64 0):=by obtain ⟨p,hr,_⟩:=hW;exact hr.err
 go_enter Tryz.func74,Tryz.ntmps74
 go_wp2
 go_loopw [2] (fun i wr=>∃k:Nat,k≤n∧i= .int .i64 k∧Wr wr lo b off (l++bitsOf (x/2^k) (n-k)) 0∧qJ b off (off+123) w wr) (fun i _=>(intOf i).toNat)
 case atStart=>exact ⟨n,Nat.le_refl _,rfl,by simpa [bitsOf] using hW,qJ.refl _ _ _ _⟩
 case round=>
  obtain ⟨k,hk,rfl,hWr,hO⟩:=hrel
  by_cases hlt:0<k
  ·obtain ⟨p,hR,hC⟩:=hWr
   have hll:(l++bitsOf (x/2^k) (n-k)).length+k<1000000000000:=by simp;omega
   generalize hL:l++bitsOf (x/2^k) (n-k)=L at*
   have HL:Hid (l++bitsOf (x/2^k) (n-k)=L):=hL
   clear hL
   generalize hlenL:L.length=len at*
   have Hlen:Hid (L.length=len):=hlenL
   clear hlenL hW he
   obtain ⟨room,hroom,hr1,hr8⟩:∃room:Nat,(8:Int)-(len:Int)%8=(room:Int)∧1≤room∧room≤8:=⟨8-len%8,by omega,by omega,by omega⟩
   obtain ⟨q,hq,hq120⟩:∃q:Nat,(len:Int)%960/8=(q:Int)∧q<120:=⟨len%960/8,by omega,by omega⟩
   have c1:=hR.len
   have c2:=hR.last q hq120
   have c3:=hR.fz (1+q) (by omega)
   rw [show off+(1+q)=off+1+q from by omega] at c3
   have c4:=hR.fz 121 (by omega)
   generalize hv:byteAt L (120*(len/960)+q)=v at c2
   have Hv:Hid (byteAt L (120*(len/960)+q)=v):=hv
   clear hv
   have hv256:v<256:=by rw [←Hv.out];exact byteAt_lt _ _
   obtain ⟨n',kk,rfl,hk0,hkr,hor⟩:∃n' kk,k=n'+kk∧0<kk∧kk≤room∧((n'=0∧kk<room)∨kk=room):=by
    by_cases h:k<room
    ·exact ⟨0,k,by omega,hlt,by omega,.inl ⟨rfl,h⟩⟩
    ·exact ⟨k-room,room,by omega,by omega,by omega,.inr rfl⟩
   obtain ⟨part,hpart,hp1⟩:∃part:Nat,bits BinOp.and IntKind.u8 ((x:Int)/2^n'%256) (255/2^(8-kk))=(part:Int)∧Hid (part=x/2^n'%2^kk):=⟨_,qCD x n' kk (by omega) hk0,rfl⟩
   have Hnum:Hid (num (bitsOf (x/2^n') kk)=part):=by show _=_;rw [num_bitsOf];exact hp1.out.symm
   have HN:Hid (L++bitsOf (x/2^n') kk=l++bitsOf (x/2^n') (n-n')):=by show _=_;rw [←HL.out];exact qFO l x n n' kk hk
   have hdl:(L++bitsOf (x/2^n') kk).length=len+kk:=by simp [Hlen.out]
   have Hdl:Hid ((L++bitsOf (x/2^n') kk).length=len+kk):=hdl
   clear hp1 HL hdl
   rcases hor with ⟨rfl,hkl⟩|rfl
   ·have hpart':bits BinOp.and IntKind.u8 ((x:Int)%256) (255/2^(8-kk))=(part:Int):=by simpa using hpart
    have h9:(((len:Int)+kk)%960==0)=false:=by rw [beq_eq_false_iff_ne];omega
    simp only [Nat.zero_add] at hk hlt hll
    rw [Nat.zero_add]
    go_wp2_with fail
    go_quiet ((go_at_call 92;exact Calls.quiet_of_same (xN kk _ (by omega))))
    go_wp2_with fail
    go_region
    go_wp2_with fail
    obtain ⟨r2,o2⟩:=pM hR Hlen.out hq hroom hkr (bitsOf (x/2^0) kk) (by simp) Hnum.out Hv.out _ rfl (nq+1)
    refine ⟨⟨0,Nat.zero_le _,rfl,?_,hO.trans o2⟩,by simp [intOf];omega⟩
    rw [←HN.out]
    have Hl:=Hlen.out
    subst Hl
    exact qLQ hC r2 o2 hb (by rw [Hdl.out];omega)
   ·by_cases h9:(len+kk)%960=0
    ·have h9':(((len:Int)+kk)%960==0)=true:=by rw [beq_iff_eq];omega
     go_wp2_with fail
     go_quiet ((go_at_call 92;exact Calls.quiet_of_same (xN kk _ (by omega))))
     go_wp2_with fail
     go_region
     go_wp2_with fail
     obtain ⟨r2,o2⟩:=pM hR Hlen.out hq hroom hkr (bitsOf (x/2^n') kk) (by simp) Hnum.out Hv.out ((part:Int)%256) (by simp) (nq+1)
     refine (lS b off p _ _ 0 _ r2).mono ?_
     rintro e w3 ⟨rfl,hR3,hK3,hO3,hlt3⟩
     go_wp2
     refine ⟨⟨n',by omega,rfl,?_,(hO.trans o2).trans hO3⟩,by simp [intOf];omega⟩
     rw [←HN.out]
     have Hl:=Hlen.out
     subst Hl
     exact qLV hC o2 hO3 hb (by have:=(hO.trans o2).size;omega) hR3 hK3 (by rw [Hdl.out];omega)
    ·have h9':(((len:Int)+kk)%960==0)=false:=by rw [beq_eq_false_iff_ne];omega
     go_wp2_with fail
     go_quiet ((go_at_call 92;exact Calls.quiet_of_same (xN kk _ (by omega))))
     go_wp2_with fail
     go_region
     go_wp2_with fail
     obtain ⟨r2,o2⟩:=pM hR Hlen.out hq hroom hkr (bitsOf (x/2^n') kk) (by simp) Hnum.out Hv.out ((part:Int)%256) (by simp) (nq+1)
     refine ⟨⟨n',by omega,rfl,?_,hO.trans o2⟩,by simp [intOf];omega⟩
     rw [←HN.out]
     have Hl:=Hlen.out
     subst Hl
     exact qLQ hC r2 o2 hb (by rw [Hdl.out];omega)
  ·have hk0:k=0:=by omega
   subst hk0
   go_wp2
   go_end0
   exact ⟨rfl,by simpa using hWr,hO⟩
end Go.Proofs.YtkpmalfigmimaaaGreatDoor
