import Derived.Test.YtkpmalfigmimaaaGreatDoorC1P
import Derived.Test.YtkpmalfigmimaaaGreatDoorC2G64
import Derived.Test.YtkpmalfigmimaaaGreatDoorC3F64
import Derived.Deep.RegionHeld3
set_option linter.unusedVariables false
set_option linter.unusedSimpArgs false
set_option maxRecDepth 100000
set_option maxHeartbeats 8000000
namespace Go.Proofs.YtkpmalfigmimaaaGreatDoor
open Go.RowKit
theorem qCI {P:Program} {w:World} (kd:IntKind) (mty kt et:TypeId) (r clock:Nat) (es:Array MapEntry) (k:Int) (val:Value) (hm:P.underlying mty=some (.map kt et)) (hk:P.underlying kt=some (.int kd)) (hb:w.heap[r]?=some (.map es clock))
  (hf:Instr.findNow (.int kd) (.int kd k) es.toList 0=some none):
  (Instr.mapUpdate mty (.map (some r)) (.int kd k) val).run P w= .ok () {w with heap:=w.heap.setIfInBounds r (.map (es.push {key:= .int kd k,val:=val,born:=clock}) (clock+1))}:=by
 have hc:(Instr.checkKey false 10000 kt (.int kd k)).run P w= .ok () w:=MapKept.run_checkKey (k:= .int kd k) hk (by simp [MapKept.IsKey]) false 9999
 simp [Instr.mapUpdate,run_underlying hm,MapKept.run_getObj_map hb,hc,MapKept.run_findKey hk hf,MapKept.run_setObj_map _ hb,Result.andThen]
theorem mT {P:Program} {w:World} (kd:IntKind) (mty kt et:TypeId) (r clock:Nat) (es:Array MapEntry) (k:Int) (i:Nat) (val:Value) (hm:P.underlying mty=some (.map kt et)) (hk:P.underlying kt=some (.int kd)) (hb:w.heap[r]?=some (.map es clock))
  (hf:Instr.findNow (.int kd) (.int kd k) es.toList 0=some (some (i,val))):
  (Instr.lookup mty (.map (some r)) (.int kd k) true).run P w= .ok (.tuple #[val,.bool true]) w∧(Instr.lookup mty (.map (some r)) (.int kd k) false).run P w= .ok val w:=by
 have hc:(Instr.checkKey es.isEmpty 10000 kt (.int kd k)).run P w= .ok () w:=MapKept.run_checkKey (k:= .int kd k) hk (by simp [MapKept.IsKey]) _ 9999
 constructor<;>simp [Instr.lookup,run_underlying hm,MapKept.run_getObj_map hb,hc,MapKept.run_findKey hk hf,Result.andThen]
theorem fO {P:Program} {w:World} (kd:IntKind) (mty kt et:TypeId) (r clock:Nat) (es:Array MapEntry) (k:Int) (z:Value) (hm:P.underlying mty=some (.map kt et)) (hk:P.underlying kt=some (.int kd)) (hb:w.heap[r]?=some (.map es clock))
  (hf:Instr.findNow (.int kd) (.int kd k) es.toList 0=some none) (hz:(zeroValue et).run P w= .ok z w):
  (Instr.lookup mty (.map (some r)) (.int kd k) true).run P w= .ok (.tuple #[z,.bool false]) w:=by
 have hc:(Instr.checkKey es.isEmpty 10000 kt (.int kd k)).run P w= .ok () w:=MapKept.run_checkKey (k:= .int kd k) hk (by simp [MapKept.IsKey]) _ 9999
 simp [Instr.lookup,run_underlying hm,MapKept.run_getObj_map hb,hc,MapKept.run_findKey hk hf,Result.andThen,hz]
def xM (kd:IntKind):Nat→List Nat→List MapEntry
 |_,[]=>[]
 |j,v::t=>{key:= .int kd (v:Int),val:= .int .i64 (j:Int),born:=j}::xM kd (j+1) t
theorem pV (kd:IntKind) (j:Nat) (U:List Nat) (v:Nat):xM kd j (U++[v])=xM kd j U++[{key:= .int kd (v:Int),val:= .int .i64 ((j+U.length:Nat):Int),born:=j+U.length}]:=by
 induction U generalizing j with
 |nil=>simp [xM]
 |cons u t ih=>rw [List.cons_append,xM,xM,ih (j+1),List.length_cons,show j+1+t.length=j+(t.length+1) from by omega];rfl
theorem rS (kd:IntKind) (U:List Nat) (v:Nat) (hv:v∈U) (j i:Nat):Instr.findNow (.int kd) (.int kd (v:Int)) (xM kd j U) i=some (some (i+U.idxOf v,.int .i64 ((j+U.idxOf v:Nat):Int))):=by
 induction U generalizing j i with
 |nil=>simp at hv
 |cons u t ih=>
  by_cases e:u=v
  ·subst e
   simp [xM,Instr.findNow,Instr.sameNow]
  ·have hb:((v:Int)==(u:Int))=false:=by rw [beq_eq_false_iff_ne];omega
   have ht:v∈t:=by
              rcases List.mem_cons.1 hv with h|h
              ·exact absurd h.symm e
              ·exact h
   have hi:(u::t).idxOf v=t.idxOf v+1:=by rw [List.idxOf_cons,show (u==v)=false from by rw [beq_eq_false_iff_ne];exact e];rfl
   rw [xM,Instr.findNow]
   simp only [Instr.sameNow,if_true,hb]
   rw [ih ht (j+1) (i+1),hi,show i+1+t.idxOf v=i+(t.idxOf v+1) from by omega,show j+1+t.idxOf v=j+(t.idxOf v+1) from by omega]
theorem mR (kd:IntKind) (U:List Nat) (v:Nat) (hv:¬v∈U) (j i:Nat):Instr.findNow (.int kd) (.int kd (v:Int)) (xM kd j U) i=some none:=by
 induction U generalizing j i with
 |nil=>rfl
 |cons u t ih=>
  have hb:((v:Int)==(u:Int))=false:=by
   rw [beq_eq_false_iff_ne]
   intro e
   exact hv (by rw [show v=u from by omega];exact List.mem_cons_self)
  rw [xM,Instr.findNow]
  simp only [Instr.sameNow,if_true,hb]
  exact ih (fun h=>hv (List.mem_cons_of_mem _ h)) (j+1) (i+1)
end Go.Proofs.YtkpmalfigmimaaaGreatDoor
namespace Go.Proofs.YtkpmalfigmimaaaGreatDoor
open Go.RowKit
open M
def qK5 (U:List Nat):List Value:=U.map fun (x:Nat)=> .int .u64 (x:Int)
structure qIS (B:Nat) (w wr:World) (U:List Nat) (v:Value) (r:Nat):Prop where
 own:wr.ownsRow (r+1) 36 1 v U.length (qK5 U)
 map:wr.heap[r]?=some (.map (xM .u64 0 U).toArray U.length)
 bel:Below B w wr
 le:B≤r
 size:r+1≤wr.heap.size
theorem qIS.len {B:Nat} {w wr:World} {U:List Nat} {v:Value} {r:Nat} (h:qIS B w wr U v r):∃p cp,v= .slice p U.length cp∧U.length≤cp∧∀j,j<U.length→∃g,p=some ⟨g,0,none⟩∧r+1≤g∧wr.cell? ⟨g,j,none⟩=some (.int .u64 ((U.getD j 0:Nat):Int)):=by
 rcases h.own.2 with ⟨h1,h2⟩|⟨g,cap2,cur,h1,hb,hg,hc2,hm2,hs,ht⟩
 ·exact ⟨none,0,by rw [h1,h2],by omega,fun j hj=>by omega⟩
 ·refine ⟨_,cap2,h1,hc2,fun j hj=>⟨g,rfl,hb,?_⟩⟩
  have e:(qK5 U)[j]?=some (.int .u64 ((U.getD j 0:Nat):Int)):=by simp [qK5,hj]
  rw [cell_of_row wr g j cur _ (0,0) hg,←e,←ht,List.getElem?_take,if_pos (by omega)]
  simp
theorem qB1 (w:World) (v:Value) (t:TypeId) (j:Nat) (u:Value) (h:[v][j]?=some u):(w.alloc (.cells #[v] t)).cell? ((⟨w.heap.size,0,none⟩:Addr).add j)=some u:=by
 match j with
 |0=>
  simp at h
  subst h
  exact cell_of_row _ _ 0 _ _ _ (heap_alloc_new w _)
 |j+1=>simp at h
theorem lI (p:Option Addr) (n cap:Nat) (f:Nat→Nat) (w:World) (h:qZ w p n f) (hn:n≤4096) (hcap:n≤cap):
  Calls Tryz.prog 163 #[.slice p n cap] w fun e w'=>∃v r,e= .returned (.tuple #[v,.map (some r)])∧qIS w.heap.size w w' (uq f n) v r:=by
 obtain ⟨r,hr⟩:∃r,w.heap.size=r:=⟨_,rfl⟩
 have HA:Hid (qIS r w (w.alloc (.map #[] 0)) [] (.slice none 0 0) r):=by
  rw [←hr]
  exact ⟨⟨by simp [qK5],.inl ⟨rfl,rfl⟩⟩,heap_alloc_new w _,(Below.refl _ w).alloc (Nat.le_refl _) _,Nat.le_refl _,by simp⟩
 have H:=qA h
 have HRR:=qA hr
 have hz:∀w1:World,(zeroValue 3).run Tryz.prog w1= .ok (.int .i64 0) w1:=fun w1=>by kernel_rfl
 have HZ:=qA hz
 obtain ⟨i5,Hi⟩:=qFC
 have HI5:=qA Hi
 clear Hi hz h
 go_enter Tryz.func163,Tryz.ntmps163
 go_upto_region 1 with fail
 refine wp_region_list ?_
 refine kG _ rfl 209 rfl ?_
 rw [hr]
 clear hr
 generalize w.alloc (.map #[] 0)=W0 at*
 go_wp2_with fail
 go_loopw [2,11] (fun t2 t11 wr=>∃(k:Nat) (p2:Option Addr) (c2:Nat),t11= .int .i64 (k:Int)∧t2= .slice p2 (uq f k).length c2∧Hid (k≤n∧qIS r w wr (uq f k) (.slice p2 (uq f k).length c2) r)) (fun _ t11 _=>n-(intOf t11).toNat)
 case atStart=>exact ⟨0,none,0,rfl,rfl,Nat.zero_le _,HA.out⟩
 case round=>
  obtain ⟨k,p2,c2,rfl,rfl,hI⟩:=hrel
  by_cases hlt:k<n
  ·obtain ⟨b,o,rfl,hc⟩:=H.out (by omega)
   obtain ⟨x,hx⟩:∃x,f k=x:=⟨_,rfl⟩
   have c1:wr.cell? ⟨b,o+k,none⟩=some (.int .u64 (x:Int)):=by
    have h1:=hc k hlt
    rw [hI.out.2.bel.cell (p:=⟨b,o+k,none⟩) (show b<r by have h3:b<w.heap.size:=block_lt_of_cell h1;have:=HRR.out;omega),h1,hx]
   obtain ⟨U,hU⟩:∃U,uq f k=U:=⟨_,rfl⟩
   have hUl:U.length≤4096:=by have:=qCQ f k;rw [hU] at this;omega
   rw [hU] at hI⊢
   have HX:=qA (And.intro hx hU)
   clear hx hU hc
   by_cases hm:x∈U
   ·have hg:=(mT (P:=Tryz.prog) (w:=wr) .u64 _ _ _ _ _ _ (x:Int) _ _ Tryz.underlying209 Tryz.underlying36 hI.out.2.map (by simpa using rS .u64 U x hm 0 0)).1
    have HE:Hid (uq f (k+1)=U):=by show uq f (k+1)=U;rw [uq,HX.out.1,HX.out.2,if_pos hm]
    clear hm
    go_wp2_with fail
    go_roundw
    case rel=>exact ⟨k+1,p2,c2,by simp,by rw [HE.out],by rw [HE.out];exact ⟨hlt,hI.out.2⟩⟩
    case measure=>simp [intOf];omega
   ·have hg:=fO (P:=Tryz.prog) (w:=wr) .u64 _ _ _ _ _ _ (x:Int) (.int .i64 0) Tryz.underlying209 Tryz.underlying36 hI.out.2.map (by simpa using mR .u64 U x hm 0 0) (HZ.out wr)
    have hput:∃w2,(Instr.mapUpdate 209 (.map (some r)) (.int .u64 (x:Int)) (.int .i64 (U.length:Int))).run Tryz.prog wr= .ok () w2∧Hid (w2.heap[r]?=some (.map (xM .u64 0 (U++[x])).toArray (U.length+1))∧(∀j,j≠r→w2.heap[j]?=wr.heap[j]?)∧w2.heap.size=wr.heap.size∧Below r wr w2):=by
     have h1:=qCI (P:=Tryz.prog) (w:=wr) .u64 _ _ _ r _ _ (x:Int) (.int .i64 (U.length:Int)) Tryz.underlying209 Tryz.underlying36 hI.out.2.map (by simpa using mR .u64 U x hm 0 0)
     obtain ⟨h2,h3⟩:=MapKept.heap_set (o':= .map ((xM .u64 0 U).toArray.push {key:= .int .u64 (x:Int),val:= .int .i64 (U.length:Int),born:=U.length}) (U.length+1)) hI.out.2.map
     refine ⟨_,h1,?_,h3,by simp,⟨rfl,rfl,rfl,by simp,fun j hj=>h3 j (by omega)⟩⟩
     have h4:(xM .u64 0 (U++[x])).toArray=(xM .u64 0 U).toArray.push {key:= .int .u64 (x:Int),val:= .int .i64 (U.length:Int),born:=U.length}:=by
      rw [pV];simp
     rw [h4]
     exact h2
    obtain ⟨w2,hput,hw2⟩:=hput
    have HE:Hid (uq f (k+1)=U++[x]):=by show uq f (k+1)=U++[x];rw [uq,HX.out.1,HX.out.2,if_neg hm]
    have HOWN:Hid (w2.ownsRow (r+1) 36 1 (.slice p2 U.length c2) U.length (qK5 U)):=jF hI.out.2.own (fun g h1 _=>hw2.out.2.1 g (by omega))
    have hs2:r+1≤w2.heap.size:=by rw [hw2.out.2.2.1];exact hI.out.2.size
    clear hm
    go_wp2_with (at_builtin;refine wpList_append_lies _ rfl _ _ _ rfl (r+1) 36 i5 (.int .u64 0) 1 8 Tryz.underlying107 HI5.out.1 HI5.out.2.1 HI5.out.2.2.1 HI5.out.2.2.2 rfl (by decide) (.slice p2 U.length c2) U.length (qK5 U) rfl (HOWN.out.alloc _) ⟨w2.heap.size,0,none⟩ 1 1 [.int .u64 (x:Int)] rfl rfl (fun j u hj=>qB1 w2 _ 36 j u hj) (fun u hu=>by simp at hu;subst hu;rfl) (by omega) (by have:maxLen=9223372036854775807:=rfl;omega) (by omega) (by simp;omega) _ rfl ?_;intro g6 cap6 w6 hown6 hgrow6 hat6 hlt6)
    have HS6:Hid (qIS r w w6 (U++[x]) (.slice (some ⟨g6,0,none⟩) (U++[x]).length cap6) r):=by
     have hB6:Below (r+1) (w2.alloc (.cells #[.int .u64 (x:Int)] 36)) w6:=wO hgrow6 (fun g hg=>(HOWN.out.lt g hg).1) (by simp;omega)
     have hB2:Below (r+1) w2 w6:=((Below.refl _ w2).alloc (by omega) _).trans hB6
     have:=hB2.size
     refine ⟨by simpa [qK5] using hown6,?_,(hI.out.2.bel.trans hw2.out.2.2.2).trans (hB2.mono (by omega)),Nat.le_refl _,by omega⟩
     rw [hB2.block r (by omega),hw2.out.1];simp
    clear hown6 hgrow6 hat6 hlt6 hput
    go_wp2_with fail
    go_roundw
    case rel=>exact ⟨k+1,some ⟨g6,0,none⟩,cap6,by simp,by rw [HE.out];simp,by rw [HE.out];exact ⟨hlt,HS6.out⟩⟩
    case measure=>simp [intOf];omega
  ·have hk:k=n:=by have:=hI.out.1;omega
   have hI':Hid (qIS r w wr (uq f n) (.slice p2 (uq f n).length c2) r):=by have:=hI.out.2;rw [hk] at this;exact this
   rw [hk]
   clear hI
   go_wp2_with fail
   go_ret2
   exact ⟨_,r,rfl,by rw [HRR.out];exact hI'.out⟩
end Go.Proofs.YtkpmalfigmimaaaGreatDoor
namespace Go.Proofs.YtkpmalfigmimaaaGreatDoor
open Go.RowKit
open M
theorem uO (p:Option Addr) (u cp:Nat) (w:World) (h0:0<u) (hu:u≤4096):Calls Tryz.prog 145 #[.slice p u cp] w fun e w'=>e= .returned (.int .i64 (bitLen (u-1):Nat))∧w'=w:=by
 obtain ⟨m,rfl⟩:∃m,u=m+1:=⟨u-1,by omega⟩
 have r0:IntKind.u64.wrap (m:Int)=(m:Int):=by rw [IntKind.wrap_u64];omega
 have HL:=qA (dE m w (by omega))
 go_enter Tryz.func145,Tryz.ntmps145
 go_wp2_with fail
 refine HL.out.mono ?_
 rintro e w1 ⟨rfl,rfl⟩
 go_wp2_with fail
 go_ret
 exact ⟨rfl,rfl⟩
def qEA (f:Nat→Nat) (n:Nat) (w:World) (e:Ending) (w':World):Prop:=
 (256<(uq f n).length∧e= .returned (.tuple #[.slice none 0 0,.int .i64 82])∧Below w.heap.size w w')∨((uq f n).length≤256∧zX (dcB 64 f n) w e w')
theorem qDU (W:Nat) (U:List Nat) (k:Nat) (hk:k<U.length):plL W (U.take (k+1))=plL W (U.take k)++bitsOf (U.getD k 0) W:=by
 have e:U.take (k+1)=U.take k++[U.getD k 0]:=by
  rw [List.take_add_one];simp [hk]
 rw [e,dS];simp [plL]
theorem cD (p:Option Addr) (n cap:Nat) (f:Nat→Nat) (w:World) (h:qZ w p n f) (h0:0<n) (hn:n≤4096) (hcap:n≤cap) (hf:∀i,i<n→f i<18446744073709551616):
  Calls Tryz.prog 129 #[.slice p n cap] w (qEA f n w):=by
 have H:=qA h
 have HF:=qA hf
 clear h hf
 go_enter Tryz.func129,Tryz.ntmps129
 go_wp2_with fail
 refine (lI p n cap f w H.out hn hcap).mono ?_
 rintro e w1 ⟨v,r,rfl,hD⟩
 obtain ⟨U,hU⟩:∃U,uq f n=U:=⟨_,rfl⟩
 obtain ⟨u,hu⟩:∃u,U.length=u:=⟨_,rfl⟩
 have hu0:0<u:=by rw [←hu,←hU];exact qCR f n h0
 have hu1:u≤4096:=by have:=qCQ f n;rw [hU,hu] at this;omega
 rw [hU] at hD
 obtain ⟨p2,c2,hv,hc2,hrow⟩:=hD.len
 rw [hu] at hv hc2 hrow
 subst hv
 have HD:=qA hD
 have HROW:=qA hrow
 have HU:=qA (And.intro hU hu)
 clear hD hrow hU hu
 by_cases hbig:256<u
 ·go_wp2_with fail
  go_ret2
  exact .inl ⟨by rw [HU.out.1,HU.out.2];exact hbig,rfl,HD.out.bel⟩
 ·obtain ⟨m,rfl⟩:∃m,u=m+1:=⟨u-1,by omega⟩
  have hm8:m<256:=by omega
  obtain ⟨g,hg⟩:∃g,g=w1.heap.size:=⟨_,rfl⟩
  obtain ⟨W1,hW1⟩:∃W1,W1=w1.alloc (.cells zW 98):=⟨_,rfl⟩
  have HM:Hid (Wr W1 (g+1) g 0 [] 0∧g+1≤W1.heap.size∧Below g w1 W1∧Below w.heap.size w W1∧w.heap.size≤g):=by
   have B1:Below g w1 W1:=by rw [hW1,hg];exact (Below.refl _ w1).alloc (Nat.le_refl _) _
   have:=HD.out.bel.size
   refine ⟨?_,by rw [hW1,hg];simp,B1,HD.out.bel.trans (B1.mono (by omega)),by omega⟩
   rw [hg,hW1];exact gO (heap_alloc_new w1 _)
  have HL:Hid (∀i,i<n→∃b o,p=some ⟨b,o,none⟩∧b<g∧W1.cell? ⟨b,o+i,none⟩=some (.int .u64 (f i:Int))):=fun i hi=>by
   obtain ⟨b,o,hp,hc⟩:=H.out h0
   have hb:b<w.heap.size:=block_lt_of_cell (hc i hi)
   exact ⟨b,o,hp,by have:=HM.out.2.2.2.2;omega,by rw [HM.out.2.2.2.1.cell (p:=⟨b,o+i,none⟩) hb];exact hc i hi⟩
  have HU2:Hid (∀j,j<m+1→∃gg,p2=some ⟨gg,0,none⟩∧gg<g∧W1.cell? ⟨gg,j,none⟩=some (.int .u64 ((U.getD j 0:Nat):Int))∧U.getD j 0<18446744073709551616):=fun j hj=>by
   obtain ⟨gg,h1,h2,h3⟩:=HROW.out j hj
   have hb:gg<w1.heap.size:=block_lt_of_cell h3
   refine ⟨gg,h1,by omega,by rw [HM.out.2.2.1.cell (p:=⟨gg,j,none⟩) (show gg<g by omega)];exact h3,?_⟩
   refine qHZ f 18446744073709551616 n HF.out _ ?_
   rw [HU.out.1]
   have hj2:j<U.length:=by rw [HU.out.2];exact hj
   rw [List.getD_eq_getElem?_getD,List.getElem?_eq_getElem hj2]
   exact List.getElem_mem hj2
  have HMAP:Hid (∀wr:World,wr.heap[r]?=W1.heap[r]?→∀x,x∈U→(Instr.lookup 209 (.map (some r)) (.int .u64 (x:Int)) false).run Tryz.prog wr= .ok (.int .i64 ((U.idxOf x:Nat):Int)) wr):=fun wr hwr x hx=>by
   have h1:wr.heap[r]?=some (.map (xM .u64 0 U).toArray U.length):=by rw [hwr,HM.out.2.2.1.block r (by have:=qB HD.out.map;omega)];exact HD.out.map
   exact (mT (P:=Tryz.prog) (w:=wr) .u64 _ _ _ _ _ _ (x:Int) _ _ Tryz.underlying209 Tryz.underlying36 h1 (by simpa using rS .u64 U x hx 0 0)).2
  have HRG:Hid (r<g):=by show r<g;have:=qB HD.out.map;omega
  have HG:=qA hg
  go_upto_region 4 with fail
  refine wp_region_list ?_
  refine wpList_build rfl 98 #[] rfl (by kernel_rfl) ?_
  simp only [Array.map_empty]
  rw [zI]
  refine Go.Great.wpList_boxTo rfl 98 (.tmp 19) rfl (some 20) rfl g hg.symm zW rfl ?_
  rw [←hW1]
  clear hW1 hg
  have r0:IntKind.u64.wrap (m:Int)=(m:Int):=by rw [IntKind.wrap_u64];omega
  go_wp2_with fail
  refine (qK g 0 (g+1) 8 m W1 [] HM.out.1 (by omega) HM.out.2.1 (by simp) (by omega) (by omega) (by omega)).mono ?_
  rintro e w3 ⟨rfl,W3,O3⟩
  have H3:Hid (Wr w3 (g+1) g 0 (bitsOf m 8) 0∧qJ g 0 123 W1 w3):=⟨by simpa using W3,O3⟩
  clear W3 O3
  go_wp2_with fail
  go_loopw [29] (fun t29 wr=>∃k:Nat,t29= .int .i64 (k:Int)∧Hid (k≤m+1∧Wr wr (g+1) g 0 (bitsOf m 8++plL 64 (U.take k)) 0∧qJ g 0 123 W1 wr)) (fun t29 _=>m+1-(intOf t29).toNat)
  case atStart=>exact ⟨0,rfl,Nat.zero_le _,by simpa [plL] using H3.out.1,H3.out.2⟩
  case round=>
   obtain ⟨k,rfl,hI⟩:=hrel
   by_cases hlt:k<m+1
   ·obtain ⟨gg,rfl,hgg,hc,hx⟩:=HU2.out k hlt
    obtain ⟨x,hx2⟩:∃x,U.getD k 0=x:=⟨_,rfl⟩
    rw [hx2] at hc hx
    have hs1:=HM.out.2.1
    have c1:wr.cell? ⟨gg,k,none⟩=some (.int .u64 (x:Int)):=by
     rw [World.cell?_of_block (w:=W1) (hI.out.2.2.block gg (by omega) (by omega))];exact hc
    have HX:=qA hx2
    have HLB:Hid ((bitsOf m 8++plL 64 (U.take k)).length+64<1000000000000):=by
     show _<_
     rw [List.length_append,bitsOf_length,xL,List.length_take];omega
    clear hx2 hc hs1
    go_wp2_with fail
    refine (kV g 0 (g+1) x wr _ hI.out.2.1 (by omega) (Nat.le_trans HM.out.2.1 hI.out.2.2.size) (by have:=HLB.out;omega) hx).mono ?_
    rintro e w4 ⟨rfl,W4,O4⟩
    have HW4:=qA W4
    have HO4:=qA O4
    clear W4 O4
    go_wp2_with fail
    go_roundw
    case rel=>
     refine ⟨k+1,by simp,hlt,?_,hI.out.2.2.trans HO4.out⟩
     rw [qDU 64 U k (by rw [HU.out.2];exact hlt),HX.out,←List.append_assoc];exact HW4.out
    case measure=>simp [intOf];omega
   ·have hk:k=m+1:=by have:=hI.out.1;omega
    have HI2:Hid (Wr wr (g+1) g 0 (bitsOf m 8++plL 64 U) 0∧qJ g 0 123 W1 wr):=by
     have h1:=hI.out.2.1
     rw [hk,List.take_of_length_le (by rw [HU.out.2];exact Nat.le_refl _)] at h1
     exact ⟨h1,hI.out.2.2⟩
    clear hI
    subst hk
    go_wp2_with fail
    go_loopw [39] (fun t39 wr=>∃k:Nat,t39= .int .i64 (k:Int)∧Hid (k≤n∧Wr wr (g+1) g 0 (bitsOf m 8++plL 64 U++pcB U (bitLen m) f k) 0∧qJ g 0 123 W1 wr)) (fun t39 _=>n-(intOf t39).toNat)
    case atStart=>exact ⟨0,rfl,Nat.zero_le _,by simpa [pcB] using HI2.out.1,HI2.out.2⟩
    case round=>
     obtain ⟨k,rfl,hJ⟩:=hrel
     by_cases hlt2:k<n
     ·obtain ⟨b,o,rfl,hbg,hc⟩:=HL.out k hlt2
      obtain ⟨x,hx⟩:∃x,f k=x:=⟨_,rfl⟩
      rw [hx] at hc
      have hs1:=HM.out.2.1
      have c1:wr.cell? ⟨b,o+k,none⟩=some (.int .u64 (x:Int)):=by
       rw [World.cell?_of_block (w:=W1) (hJ.out.2.2.block b (by omega) (by omega))];exact hc
      have hxU:x∈U:=by rw [←hx,←HU.out.1];exact gK f k n hlt2
      obtain ⟨j,hj⟩:∃j,U.idxOf x=j:=⟨_,rfl⟩
      have hj1:j<m+1:=by rw [←hj,←HU.out.2];exact List.idxOf_lt_length_of_mem hxU
      have hjb:j<2^bitLen m:=by have:=(bitLen_spec m).1;omega
      have hb8:bitLen m≤8:=bitLen_le8 m hm8
      have hlk:(Instr.lookup 209 (.map (some r)) (.int .u64 (x:Int)) false).run Tryz.prog wr.drew= .ok (.int .i64 (j:Int)) wr.drew:=by
       have:=HMAP.out wr.drew (hJ.out.2.2.block r (by have:=HRG.out;omega) (by have:=HRG.out;omega)) x hxU
       rw [hj] at this;exact this
      have HLB:Hid ((bitsOf m 8++plL 64 U++pcB U (bitLen m) f k).length+64<1000000000000):=by
       show _<_
       rw [List.length_append,List.length_append,bitsOf_length,xL,vE,HU.out.2]
       have:bitLen m*k≤8*4096:=Nat.mul_le_mul hb8 (by omega)
       omega
      have HX:=qA (And.intro hx hj)
      obtain ⟨q,hq⟩:∃q,bitLen m=q:=⟨_,rfl⟩
      have PW:=qA (fun wz:World=>uO p2 (m+1) c2 wz (by omega) hu1)
      rw [show m+1-1=m from rfl,hq] at PW
      rw [hq] at hjb hb8
      have HQ:=qA hq
      have r1:IntKind.u64.wrap (j:Int)=(j:Int):=by rw [IntKind.wrap_u64];omega
      have HJB:=qA hjb
      have HST:Hid (Wr wr.drew (g+1) g 0 (bitsOf m 8++plL 64 U++pcB U (bitLen m) f k) 0∧qJ g 0 123 W1 wr.drew):=
       ⟨hJ.out.2.1.below ⟨rfl,rfl,rfl,Nat.le_refl _,fun _ _=>rfl⟩,⟨hJ.out.2.2.os,hJ.out.2.2.tape,hJ.out.2.2.output,hJ.out.2.2.size,hJ.out.2.2.block,hJ.out.2.2.cell,hJ.out.2.2.frozen⟩⟩
      have HXU:=qA hxU
      clear hx hj hq hc hxU hjb hJ hs1
      go_wp2_with fail
      go_region_held3 (fun w'=>(Instr.lookup 209 (.map (some r)) (.int .u64 (x:Int)) false).run Tryz.prog w'= .ok (.int .i64 (j:Int)) w') (exact hlk)
       (first|(simp only [r1];done)|(go_at_call 145;go_must (refine (PW.out _).mono ?_);rintro _ w5 ⟨rfl,hw5⟩;have hw5:=hw5.symm;subst hw5)|(go_at_call 44;go_must (refine (qK g 0 (g+1) q j _ _ HST.out.1 (by omega) (Nat.le_trans HM.out.2.1 HST.out.2.size) (by have:=HLB.out;omega) (by omega) (by omega) HJB.out).mono ?_);rintro _ w6 ⟨rfl,W6,O6⟩;have HST6:=qA (And.intro W6 (HST.out.2.trans O6));have hlk:(Instr.lookup 209 (.map (some r)) (.int .u64 (x:Int)) false).run Tryz.prog w6= .ok (.int .i64 (j:Int)) w6:=(by have:=HMAP.out w6 (HST6.out.2.block r (by have:=HRG.out;have:=HM.out.2.1;omega) (by have:=HRG.out;omega)) x HXU.out;rw [HX.out.2] at this;exact this);clear W6 O6))
      all_goals
       go_wp2_with fail
       go_roundw
       case rel=>
        first|refine ⟨_,_,_,_,_,_,_,_,_,_,_,_,_,_,⟨k+1,?_,hlt2,?_,HST6.out.2⟩,rfl⟩|refine ⟨k+1,?_,hlt2,?_,HST6.out.2⟩
        ·simp
        ·rw [pcB,HX.out.1,HX.out.2,HQ.out,←List.append_assoc]
         have:=HST6.out.1
         rw [HQ.out] at this
         exact this
       case measure=>simp [intOf];omega
     ·have hk2:k=n:=by have:=hJ.out.1;omega
      have HJ2:Hid (Wr wr (g+1) g 0 (dcB 64 f n) 0∧qJ g 0 123 W1 wr):=by
       have h1:=hJ.out.2.1
       rw [hk2] at h1
       refine ⟨?_,hJ.out.2.2⟩
       rw [dcB,HU.out.1,HU.out.2];exact h1
      have HLB:Hid ((dcB 64 f n).length<1000000000000):=by
       show _<_
       have hb8:bitLen m≤8:=bitLen_le8 m hm8
       rw [dcB,HU.out.1,HU.out.2,List.length_append,List.length_append,bitsOf_length,xL,vE,HU.out.2]
       have:bitLen m*n≤8*4096:=Nat.mul_le_mul hb8 (by omega)
       simp only [Nat.add_sub_cancel]
       omega
      clear hJ
      go_wp2_with fail
      refine (qW g 0 (g+1) wr _ HJ2.out.1 (Nat.le_trans HM.out.2.1 HJ2.out.2.size) HLB.out _ rfl).mono ?_
      rintro e w9 ⟨rfl,G9,B9⟩
      have HG9:=qA G9
      have HB9:=qA B9
      clear G9 B9
      go_wp2_with fail
      go_ret2
      have e3:=HM.out.2.2.2.1
      have e4:=HM.out.2.2.2.2
      have e5:=HJ2.out.2.below (B:=w.heap.size) (by omega) (by have:=e3.size;omega)
      refine .inr ⟨by rw [HU.out.1,HU.out.2];omega,wr.heap.size,((dcB 64 f n).length+7)/8,(packed_length _).symm,?_,rfl,HG9.out,?_⟩
      ·have:=e5.size;have:=e3.size;omega
      ·exact (e3.trans e5).trans (HB9.out.mono (by have:=e5.size;have:=e3.size;omega))
end Go.Proofs.YtkpmalfigmimaaaGreatDoor
