import Derived.Test.YtkpmalfigmimaaaGreatDoorC1Q32
import Derived.Test.YtkpmalfigmimaaaGreatDoorC1L32
import Derived.Test.YtkpmalfigmimaaaGreatDoorD2A
import Derived.Test.YtkpmalfigmimaaaGreatDoorC2H32
import Derived.Test.YtkpmalfigmimaaaGreatDoorC3B32
set_option linter.unusedVariables false
set_option linter.unusedSimpArgs false
set_option maxRecDepth 100000
set_option maxHeartbeats 8000000
namespace Go.Proofs.YtkpmalfigmimaaaGreatDoor
open Go.RowKit
theorem qFC (p:Option Addr) (n cap:Nat) (w:World) (h0:0<n) (hn:n≤4096) (Q:Value→Value→World→Prop)
  (hcall:∀w1,Below w.heap.size w w1→Calls Tryz.prog 120 #[.slice p n cap] w1 fun e w'=>∃b s,e= .returned (.tuple #[b,s])∧Q b s w'):
  Calls Tryz.prog 89 #[.int .i64 1,.slice p n cap] w fun e w'=>∃b s,e= .returned (.tuple #[b,s])∧Q b s w':=by
 have hf:Instr.findNow (.int .i64) (.int .i64 1) kB.toList 0=some (some (0,.func (.func 120) #[] #[])):=by kernel_rfl
 have hne:((n:Int)==0)=false:=by rw [beq_eq_false_iff_ne];omega
 go_enter Tryz.func89,Tryz.ntmps89
 go_wp2_with fail
 refine (zB w).mono ?_
 rintro e w1 ⟨rfl,b1,B1⟩
 have hl:=jJ (P:=Tryz.prog) (w:=w1) _ _ _ _ _ _ 1 _ _ Tryz.underlying167 Tryz.underlying3 b1 hf
 have HB:=qA B1
 clear B1 b1 hf
 go_wp2_with fail
 refine (hcall w1 HB.out).mono ?_
 rintro e w2 ⟨b,s,rfl,h⟩
 have HQ:=qA h
 clear h
 go_wp2_with fail
 go_ret2
 exact ⟨b,s,rfl,HQ.out⟩
theorem qFD (p:Option Addr) (n cap:Nat) (w:World) (h0:0<n) (hn:n≤4096) (Q:Value→Value→World→Prop)
  (hcall:∀w1,Below w.heap.size w w1→Calls Tryz.prog 121 #[.slice p n cap] w1 fun e w'=>∃b s,e= .returned (.tuple #[b,s])∧Q b s w'):
  Calls Tryz.prog 89 #[.int .i64 2,.slice p n cap] w fun e w'=>∃b s,e= .returned (.tuple #[b,s])∧Q b s w':=by
 have hf:Instr.findNow (.int .i64) (.int .i64 2) kB.toList 0=some (some (1,.func (.func 121) #[] #[])):=by kernel_rfl
 have hne:((n:Int)==0)=false:=by rw [beq_eq_false_iff_ne];omega
 go_enter Tryz.func89,Tryz.ntmps89
 go_wp2_with fail
 refine (zB w).mono ?_
 rintro e w1 ⟨rfl,b1,B1⟩
 have hl:=jJ (P:=Tryz.prog) (w:=w1) _ _ _ _ _ _ 2 _ _ Tryz.underlying167 Tryz.underlying3 b1 hf
 have HB:=qA B1
 clear B1 b1 hf
 go_wp2_with fail
 refine (hcall w1 HB.out).mono ?_
 rintro e w2 ⟨b,s,rfl,h⟩
 have HQ:=qA h
 clear h
 go_wp2_with fail
 go_ret2
 exact ⟨b,s,rfl,HQ.out⟩
theorem qFE (p:Option Addr) (n cap:Nat) (w:World) (h0:0<n) (hn:n≤4096) (Q:Value→Value→World→Prop)
  (hcall:∀w1,Below w.heap.size w w1→Calls Tryz.prog 122 #[.slice p n cap] w1 fun e w'=>∃b s,e= .returned (.tuple #[b,s])∧Q b s w'):
  Calls Tryz.prog 89 #[.int .i64 3,.slice p n cap] w fun e w'=>∃b s,e= .returned (.tuple #[b,s])∧Q b s w':=by
 have hf:Instr.findNow (.int .i64) (.int .i64 3) kB.toList 0=some (some (2,.func (.func 122) #[] #[])):=by kernel_rfl
 have hne:((n:Int)==0)=false:=by rw [beq_eq_false_iff_ne];omega
 go_enter Tryz.func89,Tryz.ntmps89
 go_wp2_with fail
 refine (zB w).mono ?_
 rintro e w1 ⟨rfl,b1,B1⟩
 have hl:=jJ (P:=Tryz.prog) (w:=w1) _ _ _ _ _ _ 3 _ _ Tryz.underlying167 Tryz.underlying3 b1 hf
 have HB:=qA B1
 clear B1 b1 hf
 go_wp2_with fail
 refine (hcall w1 HB.out).mono ?_
 rintro e w2 ⟨b,s,rfl,h⟩
 have HQ:=qA h
 clear h
 go_wp2_with fail
 go_ret2
 exact ⟨b,s,rfl,HQ.out⟩
theorem qFF (p:Option Addr) (n cap:Nat) (w:World) (h0:0<n) (hn:n≤4096) (Q:Value→Value→World→Prop)
  (hcall:∀w1,Below w.heap.size w w1→Calls Tryz.prog 123 #[.slice p n cap] w1 fun e w'=>∃b s,e= .returned (.tuple #[b,s])∧Q b s w'):
  Calls Tryz.prog 89 #[.int .i64 4,.slice p n cap] w fun e w'=>∃b s,e= .returned (.tuple #[b,s])∧Q b s w':=by
 have hf:Instr.findNow (.int .i64) (.int .i64 4) kB.toList 0=some (some (3,.func (.func 123) #[] #[])):=by kernel_rfl
 have hne:((n:Int)==0)=false:=by rw [beq_eq_false_iff_ne];omega
 go_enter Tryz.func89,Tryz.ntmps89
 go_wp2_with fail
 refine (zB w).mono ?_
 rintro e w1 ⟨rfl,b1,B1⟩
 have hl:=jJ (P:=Tryz.prog) (w:=w1) _ _ _ _ _ _ 4 _ _ Tryz.underlying167 Tryz.underlying3 b1 hf
 have HB:=qA B1
 clear B1 b1 hf
 go_wp2_with fail
 refine (hcall w1 HB.out).mono ?_
 rintro e w2 ⟨b,s,rfl,h⟩
 have HQ:=qA h
 clear h
 go_wp2_with fail
 go_ret2
 exact ⟨b,s,rfl,HQ.out⟩
theorem qFG (p:Option Addr) (n cap:Nat) (w:World) (h0:0<n) (hn:n≤4096) (Q:Value→Value→World→Prop)
  (hcall:∀w1,Below w.heap.size w w1→Calls Tryz.prog 124 #[.slice p n cap] w1 fun e w'=>∃b s,e= .returned (.tuple #[b,s])∧Q b s w'):
  Calls Tryz.prog 89 #[.int .i64 5,.slice p n cap] w fun e w'=>∃b s,e= .returned (.tuple #[b,s])∧Q b s w':=by
 have hf:Instr.findNow (.int .i64) (.int .i64 5) kB.toList 0=some (some (4,.func (.func 124) #[] #[])):=by kernel_rfl
 have hne:((n:Int)==0)=false:=by rw [beq_eq_false_iff_ne];omega
 go_enter Tryz.func89,Tryz.ntmps89
 go_wp2_with fail
 refine (zB w).mono ?_
 rintro e w1 ⟨rfl,b1,B1⟩
 have hl:=jJ (P:=Tryz.prog) (w:=w1) _ _ _ _ _ _ 5 _ _ Tryz.underlying167 Tryz.underlying3 b1 hf
 have HB:=qA B1
 clear B1 b1 hf
 go_wp2_with fail
 refine (hcall w1 HB.out).mono ?_
 rintro e w2 ⟨b,s,rfl,h⟩
 have HQ:=qA h
 clear h
 go_wp2_with fail
 go_ret2
 exact ⟨b,s,rfl,HQ.out⟩
theorem qFH (p:Option Addr) (n cap:Nat) (w:World) (h0:0<n) (hn:n≤4096) (Q:Value→Value→World→Prop)
  (hcall:∀w1,Below w.heap.size w w1→Calls Tryz.prog 125 #[.slice p n cap] w1 fun e w'=>∃b s,e= .returned (.tuple #[b,s])∧Q b s w'):
  Calls Tryz.prog 89 #[.int .i64 6,.slice p n cap] w fun e w'=>∃b s,e= .returned (.tuple #[b,s])∧Q b s w':=by
 have hf:Instr.findNow (.int .i64) (.int .i64 6) kB.toList 0=some (some (5,.func (.func 125) #[] #[])):=by kernel_rfl
 have hne:((n:Int)==0)=false:=by rw [beq_eq_false_iff_ne];omega
 go_enter Tryz.func89,Tryz.ntmps89
 go_wp2_with fail
 refine (zB w).mono ?_
 rintro e w1 ⟨rfl,b1,B1⟩
 have hl:=jJ (P:=Tryz.prog) (w:=w1) _ _ _ _ _ _ 6 _ _ Tryz.underlying167 Tryz.underlying3 b1 hf
 have HB:=qA B1
 clear B1 b1 hf
 go_wp2_with fail
 refine (hcall w1 HB.out).mono ?_
 rintro e w2 ⟨b,s,rfl,h⟩
 have HQ:=qA h
 clear h
 go_wp2_with fail
 go_ret2
 exact ⟨b,s,rfl,HQ.out⟩
end Go.Proofs.YtkpmalfigmimaaaGreatDoor
namespace Go.Proofs.YtkpmalfigmimaaaGreatDoor
open Go.RowKit
theorem mO (k:Nat) (h1:1≤k) (h6:k≤6):∃i v,Instr.findNow (.int .i64) (.int .i64 (k:Int)) kB.toList 0=some (some (i,v)):=by
 obtain rfl|rfl|rfl|rfl|rfl|rfl:k=1∨k=2∨k=3∨k=4∨k=5∨k=6:=by omega
 all_goals exact ⟨_,_,rfl⟩
theorem rU (k:Nat) (p:Option Addr) (cap:Nat) (w:World) (h1:1≤k) (h6:k≤6):
  Calls Tryz.prog 89 #[.int .i64 k,.slice p 0 cap] w fun e w'=>e= .returned (.tuple #[.slice none 0 0,.int .i64 0])∧Below w.heap.size w w':=by
 obtain ⟨i,v,hf⟩:=mO k h1 h6
 go_enter Tryz.func89,Tryz.ntmps89
 go_wp2_with fail
 refine (zB w).mono ?_
 rintro e w1 ⟨rfl,b1,B1⟩
 have hl:=jJ (P:=Tryz.prog) (w:=w1) _ _ _ _ _ _ k _ _ Tryz.underlying167 Tryz.underlying3 b1 hf
 have HB:=qA B1
 clear B1 b1 hf
 go_wp2_with fail
 go_ret2
 exact ⟨rfl,HB.out⟩
end Go.Proofs.YtkpmalfigmimaaaGreatDoor
namespace Go.Proofs.YtkpmalfigmimaaaGreatDoor
open Go.RowKit
open M
def yD (k:Nat) (f:Nat→Nat) (n:Nat):Option (List Bool):=match k with
 |1=>some (plB 32 f n)
 |2=>some (cbn 32 5 f n)
 |3=>some (rnB 32 f n 0 n)
 |4=>dcO 32 f n
 |5=>some (stB 2147483648 4294967296 f n)
 |6=>some (F32.dm 32 f n)
 |_=>none
def tU (o:Option (List Bool)) (w:World) (e:Ending) (w':World):Prop:=match o with
 |some l=>zV l w e w'
 |none=>e= .returned (.tuple #[.slice none 0 0,.int .i64 82])∧Below w.heap.size w w'
theorem qHC {f:Nat→Nat} {n:Nat} {w:World} {e:Ending} {w':World} (h:tZ f n w e w') (h0:0<n):zV (cbn 32 5 f n) w e w':=h
theorem lP (k:Nat) (p:Option Addr) (n cap:Nat) (f:Nat→Nat) (w:World) (hk1:1≤k) (hk6:k≤6) (h:jB w p n f) (h0:0<n) (hn:n≤4096) (hcap:n≤cap) (hf:∀i,i<n→f i<4294967296) (hT:qT w):
  Calls Tryz.prog 89 #[.int .i64 k,.slice p n cap] w (tU (yD k f n) w):=by
 obtain rfl|rfl|rfl|rfl|rfl|rfl:k=1∨k=2∨k=3∨k=4∨k=5∨k=6:=by omega
 ·refine (qFC p n cap w h0 hn (fun b s w'=>zV (plB 32 f n) w (.returned (.tuple #[b,s])) w') fun w1 B1=>?_).mono ?_
  ·refine (bR p n cap f w1 (h.below B1) hn hcap hf).mono ?_
   rintro e w' ⟨g,L,h1,h2,rfl,h4,h5⟩
   exact ⟨_,_,rfl,g,L,h1,Nat.le_trans B1.size h2,rfl,h4,B1.trans (h5.mono B1.size)⟩
  ·rintro e w' ⟨b,s,rfl,hq⟩
   exact hq
 ·refine (qFD p n cap w h0 hn (fun b s w'=>zV (cbn 32 5 f n) w (.returned (.tuple #[b,s])) w') fun w1 B1=>?_).mono ?_
  ·refine (qGE p n cap f w1 (h.below B1) hn hcap hf (hT.below B1)).mono ?_
   rintro e w' hE
   obtain ⟨g,L,h1,h2,rfl,h4,h5⟩:=qHC hE h0
   exact ⟨_,_,rfl,g,L,h1,Nat.le_trans B1.size h2,rfl,h4,B1.trans (h5.mono B1.size)⟩
  ·rintro e w' ⟨b,s,rfl,hq⟩
   exact hq
 ·refine (qFE p n cap w h0 hn (fun b s w'=>zV (rnB 32 f n 0 n) w (.returned (.tuple #[b,s])) w') fun w1 B1=>?_).mono ?_
  ·refine (cP p n cap f w1 (h.below B1) hn hcap hf).mono ?_
   rintro e w' ⟨g,L,h1,h2,rfl,h4,h5⟩
   exact ⟨_,_,rfl,g,L,h1,Nat.le_trans B1.size h2,rfl,h4,B1.trans (h5.mono B1.size)⟩
  ·rintro e w' ⟨b,s,rfl,hq⟩
   exact hq
 ·refine (qFF p n cap w h0 hn (fun b s w'=>tU (dcO 32 f n) w (.returned (.tuple #[b,s])) w') fun w1 B1=>?_).mono ?_
  ·refine (cJ p n cap f w1 (h.below B1) h0 hn hcap hf).mono ?_
   rintro e w' hE
   rcases hE with ⟨hu,rfl,hB⟩|⟨hu,g,L,h1,h2,rfl,h4,h5⟩
   ·refine ⟨_,_,rfl,?_⟩
    unfold dcO
    rw [if_neg (by omega)]
    exact ⟨rfl,B1.trans (hB.mono B1.size)⟩
   ·refine ⟨_,_,rfl,?_⟩
    unfold dcO
    rw [if_pos hu]
    exact ⟨g,L,h1,Nat.le_trans B1.size h2,rfl,h4,B1.trans (h5.mono B1.size)⟩
  ·rintro e w' ⟨b,s,rfl,hq⟩
   exact hq
 ·refine (qFG p n cap w h0 hn (fun b s w'=>zV (stB 2147483648 4294967296 f n) w (.returned (.tuple #[b,s])) w') fun w1 B1=>?_).mono ?_
  ·refine (mM p n cap f w1 (h.below B1) hn hcap hf).mono ?_
   rintro e w' ⟨g,L,h1,h2,rfl,h4,h5⟩
   exact ⟨_,_,rfl,g,L,h1,Nat.le_trans B1.size h2,rfl,h4,B1.trans (h5.mono B1.size)⟩
  ·rintro e w' ⟨b,s,rfl,hq⟩
   exact hq
 ·refine (qFH p n cap w h0 hn (fun b s w'=>zV (F32.dm 32 f n) w (.returned (.tuple #[b,s])) w') fun w1 B1=>?_).mono ?_
  ·refine (pN p n cap f w1 (h.below B1) hn hcap hf).mono ?_
   rintro e w' ⟨g,L,h1,h2,rfl,h4,h5⟩
   exact ⟨_,_,rfl,g,L,h1,Nat.le_trans B1.size h2,rfl,h4,B1.trans (h5.mono B1.size)⟩
  ·rintro e w' ⟨b,s,rfl,hq⟩
   exact hq
def jK (k n:Nat) (h:Nat→Nat) (bs:List Nat):Prop:=(∀i,i<n→h i<4294967296)∧(n=0→bs=[])∧(0<n→∃l,yD k h n=some l∧packed l=bs)
def dA (k n:Nat) (f:Nat→Nat) (w:World) (e:Ending) (w':World):Prop:=
 (∃(pu:Option Addr) (cu:Nat) (bs:List Nat),e= .returned (.tuple #[.slice pu bs.length cu,.int .i64 0])∧jQ w' (.slice pu bs.length cu) bs∧(∀n∈bs,n<256)∧Below w.heap.size w w'∧jK k n f bs∧∀bs',jK k n f bs'→bs'=bs)∨
 (e= .returned (.tuple #[.slice none 0 0,.int .i64 82])∧Below w.heap.size w w'∧∀bs,jK k n f bs→False)
theorem xV (k:Nat) (p:Option Addr) (n cap:Nat) (f:Nat→Nat) (w:World) (hk1:1≤k) (hk6:k≤6) (h:jB w p n f) (hn:n≤4096) (hcap:n≤cap) (hf:∀i,i<n→f i<4294967296) (hT:qT w):
  Calls Tryz.prog 89 #[.int .i64 k,.slice p n cap] w (dA k n f w):=by
 by_cases h0:n=0
 ·subst h0
  refine (rU k p cap w hk1 hk6).mono ?_
  rintro e w' ⟨rfl,hB⟩
  exact .inl ⟨none,0,[],rfl,.inl (.inl ⟨rfl,rfl⟩),by simp,hB,⟨hf,fun _=>rfl,fun h=>by omega⟩,fun bs' hP=>hP.2.1 rfl⟩
 ·refine (lP k p n cap f w hk1 hk6 h (by omega) hn hcap hf hT).mono ?_
  intro e w' hE
  cases ho:yD k f n with
  |none=>
   rw [ho] at hE
   obtain ⟨rfl,hB⟩:=hE
   refine .inr ⟨rfl,hB,fun bs hP=>?_⟩
   obtain ⟨l,h1,_⟩:=hP.2.2 (by omega)
   rw [ho] at h1;cases h1
  |some l=>
   rw [ho] at hE
   obtain ⟨g,L,h1,h2,rfl,h4,h5⟩:=hE
   subst h1
   refine .inl ⟨_,_,packed l,rfl,.inl (jC h4),jR l,h5,⟨hf,fun h=>absurd h h0,fun _=>⟨l,ho,rfl⟩⟩,fun bs' hP=>?_⟩
   obtain ⟨l',h1,h2⟩:=hP.2.2 (by omega)
   rw [ho] at h1
   cases h1
   exact h2.symm
end Go.Proofs.YtkpmalfigmimaaaGreatDoor
namespace Go.Proofs.YtkpmalfigmimaaaGreatDoor
open Go.RowKit
open M
theorem fM (c:Nat) (h:c≤4096) (w:World):
  (Instr.makeSlice 183 (.int .i64 (c:Int)) (.int .i64 (c:Int))).run Tryz.prog w= .ok (.slice (some ⟨w.heap.size,0,none⟩) c c) (w.alloc (.cells (Array.replicate c (Value.bool false)) 4)):=by
 have hz:(Tryz.prog.info? 4).bind (·.zero)=some (.bool false):=by kernel_rfl
 have hs:(Tryz.prog.info? 4).map (·.size)=some 1:=by kernel_rfl
 have hb:(Tryz.prog.info? 4).map (·.bytes)=some 1:=by kernel_rfl
 cases hi:Tryz.prog.info? 4 with
 |none=>simp [hi] at hs
 |some i=>
  simp only [hi,Option.bind_some,Option.map_some,Option.some.injEq] at hz hs hb
  rw [run_make w 183 4 i _ Tryz.underlying183 hi hz .i64 .i64 (c:Int) (c:Int) (by omega) (by omega) (by rw [hb];omega) (by omega)]
  have e:madeCells (Value.bool false).cells ((c:Int).toNat*i.size)=Array.replicate c (Value.bool false):=by
   rw [hs]
   apply Array.ext
   ·simp [madeCells]
   ·intro j h1 h2
    simp [madeCells,Value.cells,Nat.mod_one]
  rw [e];simp
structure nJ (w:World) (gl gb n:Nat) (f:Nat→Nat) (z:Nat→Bool):Prop where
 ne:gl≠gb
 l:∀i,i<n→w.cell? ⟨gl,i,none⟩=some (.int .u32 (f i:Int))
 b:∀i,i<n→w.cell? ⟨gb,i,none⟩=some (.bool (z i))
 fl:∀i,w.frozen? ⟨gl,i,none⟩=false
 fb:∀i,w.frozen? ⟨gb,i,none⟩=false
 bl:∃cur:Array Value,w.heap[gl]?=some (.cells cur 57 (0,0))∧cur.size=n
 lb:gb<w.heap.size
theorem nJ.ll {w:World} {gl gb n:Nat} {f:Nat→Nat} {z:Nat→Bool} (h:nJ w gl gb n f z):gl<w.heap.size:=by
 obtain ⟨cur,h1,_⟩:=h.bl
 exact qB h1
theorem nJ.keep {w w':World} {gl gb n:Nat} {f:Nat→Nat} {z:Nat→Bool} (h:nJ w gl gb n f z) (h1:w'.heap[gl]?=w.heap[gl]?) (h2:w'.heap[gb]?=w.heap[gb]?) (hs:w.heap.size≤w'.heap.size):nJ w' gl gb n f z:=
 ⟨h.ne,fun i hi=>by rw [World.cell?_of_block (w:=w) h1];exact h.l i hi,fun i hi=>by rw [World.cell?_of_block (w:=w) h2];exact h.b i hi,
  fun i=>by rw [World.frozen?_of_block (w:=w) (w':=w') (a:=⟨gl,i,none⟩) h1];exact h.fl i,fun i=>by rw [World.frozen?_of_block (w:=w) (w':=w') (a:=⟨gb,i,none⟩) h2];exact h.fb i,by rw [h1];exact h.bl,Nat.lt_of_lt_of_le h.lb hs⟩
theorem nJ.setL {w:World} {gl gb n:Nat} {f:Nat→Nat} {z:Nat→Bool} (h:nJ w gl gb n f z) (k x:Nat) (hk:k<n):nJ (w.setCell ⟨gl,k,none⟩ (.int .u32 (x:Int))) gl gb n (fun i=>if i=k then x else f i) z:=by
 have hb:(w.setCell ⟨gl,k,none⟩ (.int .u32 (x:Int))).heap[gb]?=w.heap[gb]?:=Below.heap_setCell _ _ _ _ (fun e=>h.ne e.symm)
 refine ⟨h.ne,fun i hi=>?_,fun i hi=>by rw [World.cell?_of_block (w:=w) hb];exact h.b i hi,fun i=>by rw [qE];exact h.fl i,fun i=>by rw [qE];exact h.fb i,?_,by simp [World.setCell];exact h.lb⟩
 ·by_cases e:i=k
  ·subst e
   rw [qF _ _ _ _ _ (h.l i hi)];simp
  ·rw [qC _ _ _ _ _ e,h.l i hi];simp [e]
 ·obtain ⟨cur,h1,h2⟩:=h.bl
  exact ⟨_,heap_setCell_same w gl k cur _ _ h1,by simpa using h2⟩
theorem nJ.setB {w:World} {gl gb n:Nat} {f:Nat→Nat} {z:Nat→Bool} (h:nJ w gl gb n f z) (k:Nat) (hk:k<n):nJ (w.setCell ⟨gb,k,none⟩ (.bool true)) gl gb n f (fun i=>if i=k then true else z i):=by
 have hb:(w.setCell ⟨gb,k,none⟩ (.bool true)).heap[gl]?=w.heap[gl]?:=Below.heap_setCell _ _ _ _ h.ne
 refine ⟨h.ne,fun i hi=>by rw [World.cell?_of_block (w:=w) hb];exact h.l i hi,fun i hi=>?_,fun i=>by rw [qE];exact h.fl i,fun i=>by rw [qE];exact h.fb i,by rw [hb];exact h.bl,by simp [World.setCell];exact h.lb⟩
 by_cases e:i=k
 ·subst e
  rw [qF _ _ _ _ _ (h.b i hi)];simp
 ·rw [qC _ _ _ _ _ e,h.b i hi];simp [e]
theorem nJ.new (w:World) (n:Nat) (two:Bool):nJ (if two then ((w.alloc (.cells (Array.replicate n (Value.int .u32 0)) 57)).alloc (.cells (Array.replicate n (Value.bool false)) 4)) else ((w.alloc (.cells (Array.replicate n (Value.bool false)) 4)).alloc (.cells (Array.replicate n (Value.int .u32 0)) 57))) (if two then w.heap.size else w.heap.size+1) (if two then w.heap.size+1 else w.heap.size) n (fun _=>0) (fun _=>false):=by
 cases two
 ·simp only [Bool.false_eq_true,if_false]
  have h0:=heap_alloc_new w (.cells (Array.replicate n (Value.bool false)) 4)
  have h1:=heap_alloc_new (w.alloc (.cells (Array.replicate n (Value.bool false)) 4)) (.cells (Array.replicate n (Value.int .u32 0)) 57)
  have h2:=xE h0 (.cells (Array.replicate n (Value.int .u32 0)) 57)
  rw [show (w.alloc (.cells (Array.replicate n (Value.bool false)) 4)).heap.size=w.heap.size+1 from by simp] at h1
  refine ⟨by omega,fun i hi=>?_,fun i hi=>?_,fun i=>frozen_of_row _ _ _ _ _ h1,fun i=>frozen_of_row _ _ _ _ _ h2,⟨_,h1,by simp⟩,qB h2⟩
  ·rw [cell_of_row _ _ _ _ _ _ h1];simp [hi]
  ·rw [cell_of_row _ _ _ _ _ _ h2];simp [hi]
 ·simp only [if_true]
  have h0:=heap_alloc_new w (.cells (Array.replicate n (Value.int .u32 0)) 57)
  have h1:=heap_alloc_new (w.alloc (.cells (Array.replicate n (Value.int .u32 0)) 57)) (.cells (Array.replicate n (Value.bool false)) 4)
  have h2:=xE h0 (.cells (Array.replicate n (Value.bool false)) 4)
  rw [show (w.alloc (.cells (Array.replicate n (Value.int .u32 0)) 57)).heap.size=w.heap.size+1 from by simp] at h1
  refine ⟨by omega,fun i hi=>?_,fun i hi=>?_,fun i=>frozen_of_row _ _ _ _ _ h2,fun i=>frozen_of_row _ _ _ _ _ h1,⟨_,h2,by simp⟩,qB h1⟩
  ·rw [cell_of_row _ _ _ _ _ _ h2];simp [hi]
  ·rw [cell_of_row _ _ _ _ _ _ h1];simp [hi]
theorem qFV (b off:Nat) (s:ByteArray) (a:Nat) (e0:Int) (w:World) (h:Rd w b off s a e0):
  Calls Tryz.prog 134 #[.pointer (some ⟨b,off,none⟩)] w fun e w'=>∃(x a':Nat) (e1:Int),e= .returned (.int .u64 (x:Int))∧x<18446744073709551616∧Hk varB (fun y=>y<18446744073709551616) w w' b off s a e0 x a' e1∧(s.size=0→x=0):=by
 by_cases h0:s.size=0
 ·have hr:rb s=[]:=List.eq_nil_of_length_eq_zero (by rw [jN];omega)
  have hno:∀y r,(rb s).drop a=varB y++r→False:=fun y r hd=>by
   have:=congrArg List.length hd
   have h2:=tJ y
   rw [hr,List.length_append] at this
   simp at this
   omega
  by_cases he:e0=0
  ·subst he
   rcases gT s a with ⟨x,en,hr2,hx,hen,ht⟩|⟨c,hc,hr2⟩
   ·exfalso
    have:=congrArg List.length ht
    have h2:=tJ x
    rw [hr,List.length_append] at this
    simp at this
    omega
   ·refine (nB b off s a c w h hr2 hc).mono fun e w' ⟨h1,h2,h3⟩=>?_
    exact ⟨0,a,c,h1,by omega,⟨h2,h3,fun _ y r _ hd=>(hno y r hd).elim⟩,fun _=>rfl⟩
  ·refine (nA b off s a e0 w h (by rw [beq_eq_false_iff_ne];exact he)).mono fun e w' ⟨h1,h2,h3⟩=>?_
   exact ⟨0,a,e0,h1,by omega,⟨h2,h3,fun h=>absurd h he⟩,fun _=>rfl⟩
 ·exact (dS b off s a e0 w h).mono fun e w' ⟨x,a',e1,h1,h2,h3⟩=>⟨x,a',e1,h1,h2,h3,fun h=>absurd h h0⟩
def qLM (s:ByteArray) (a:Nat) (e0:Int) (n p:Nat) (h:Nat→Nat) (r:List Bool):Prop:=
 e0=0∧(∀i,i<n→h i<4294967296)∧(rb s).drop a=varB (F32.cnt p h 0 n)++(F32.nt 32 p h 0 n 0++r)
structure qLT (w wr:World) (b:Nat) (s:ByteArray) (a0:Nat) (e0:Int) (gl gb n i left a1:Nat) (e1:Int) (f:Nat→Nat) (z:Nat→Bool):Prop where
 nb:nJ wr gl gb n f z
 rd:Rd wr b 0 s a1 e1
 bel:Below b w wr
 oth:∀g,g<w.heap.size→g≠b→wr.heap[g]?=w.heap[g]?
 rng:∀j,j<n→f j<4294967296
 full:∀p h r,qLM s a0 e0 n p h r→e1=0∧left=F32.cnt p h i (n-i)∧(rb s).drop a1=F32.nt 32 p h i (n-i) 0++r∧(∀j,j<i→z j=!(F32.wh p (h j)).isSome∧(z j=true→f j=h j))∧∀j,i≤j→z j=false
 emp:n=0→s.size=0→left=0
def qAR (w:World) (b:Nat) (s:ByteArray) (a0:Nat) (e0:Int) (n:Nat) (e:Ending) (w':World):Prop:=
 (e= .returned (.tuple #[.slice none 0 0,.slice none 0 0,.bool false])∧Below b w w'∧(∀p h r,qLM s a0 e0 n p h r→False)∧¬(n=0∧s.size=0))∨
 ∃(gl gb i a1:Nat) (e1:Int) (f:Nat→Nat) (z:Nat→Bool),e= .returned (.tuple #[.slice (some ⟨gl,0,none⟩) n n,.slice (some ⟨gb,0,none⟩) n n,.bool true])∧qLT w w' b s a0 e0 gl gb n i 0 a1 e1 f z∧w.heap.size≤gl∧w.heap.size≤gb∧i≤n
theorem gI (b:Nat) (s:ByteArray) (a n:Nat) (e0:Int) (w:World) (h:Rd w b 0 s a e0) (hn:n≤4096) (hb:b<w.heap.size):
  Calls Tryz.prog 140 #[.pointer (some ⟨b,0,none⟩),.int .i64 n] w (qAR w b s a e0 n):=by
 have H:=qA h
 have HBS:=qA hb
 have hm1:=zL n hn
 have hm2:=fM n hn
 have HN1:=qA (nJ.new w n true)
 have HN2:=qA (nJ.new w n false)
 simp only [if_true,Bool.false_eq_true,if_false] at HN1 HN2
 clear h hb
 go_enter Tryz.func140,Tryz.ntmps140
 go_upto_region 1 with fail
 go_cut [4,5] from 10 (fun t4 t5 wc=>∃(gl gb:Nat),t4= .slice (some ⟨gl,0,none⟩) n n∧t5= .slice (some ⟨gb,0,none⟩) n n∧Hid (nJ wc gl gb n (fun _=>0) (fun _=>false)∧Below w.heap.size w wc∧w.heap.size≤gl∧w.heap.size≤gb))
 case first=>
  go_region
  ·go_wp2_with fail
   go_meet
   case rel=>exact ⟨w.heap.size,w.heap.size+1,rfl,rfl,HN1.out.keep rfl rfl (Nat.le_refl _),(((Below.refl _ w).alloc (Nat.le_refl _) _).alloc (by simp) _).drew,Nat.le_refl _,by omega⟩
  ·go_wp2_with fail
   go_meet
   case rel=>exact ⟨w.heap.size+1,w.heap.size,rfl,rfl,HN2.out.keep rfl rfl (Nat.le_refl _),(((Below.refl _ w).alloc (Nat.le_refl _) _).alloc (by simp) _).drew,by omega,Nat.le_refl _⟩
 case rest=>
  obtain ⟨gl,gb,rfl,rfl,hC⟩:=hcut
  have HGL:Hid (gl≠b∧gb≠b∧b<gl∧b<gb):=by have:=hC.out.2.2;have:=HBS.out;exact ⟨by omega,by omega,by omega,by omega⟩
  clear hm1 hm2
  go_wp2_with fail
  refine (qFV b 0 s a e0 wc (H.out.below hC.out.2.1 HBS.out)).mono ?_
  rintro e w2 ⟨x,a1,e1,rfl,hx,T1,hx0⟩
  have HT:Hid (qLT w w2 b s a e0 gl gb n 0 x a1 e1 (fun _=>0) (fun _=>false)):=by
   have O1:=T1.only
   have hll:=hC.out.1.ll
   have hlb:=hC.out.1.lb
   refine ⟨hC.out.1.keep (O1.block gl hll HGL.out.1) (O1.block gb hlb HGL.out.2.1) O1.size,T1.rd,(hC.out.2.1.mono (Nat.le_of_lt HBS.out)).trans (O1.below (Nat.le_refl _) (by have:=hC.out.2.1.size;have:=HBS.out;omega)),fun g hg hgb=>?_,fun j _=>by omega,fun p h r hcp=>?_,fun _ hs=>hx0 hs⟩
   ·rw [O1.block g (by have:=hC.out.2.1.size;omega) hgb];exact hC.out.2.1.block g hg
   ·obtain ⟨q1,q2,q3⟩:=hcp
    obtain ⟨q4,q5,q6⟩:=T1.drop q1 _ _ (by have:=F32.cnt_le p h 0 n;show _<_;omega) q3
    exact ⟨q5,by rw [q4,Nat.sub_zero],by rw [q6,Nat.sub_zero],fun j hj=>by omega,fun _ _=>rfl⟩
  clear T1 hx0
  go_wp2_with fail
  go_loopw [4,5,7,8] (fun t4 t5 t7 t8 wr=>∃(i left a1:Nat) (e1:Int) (f:Nat→Nat) (z:Nat→Bool),t4= .slice (some ⟨gl,0,none⟩) n n∧t5= .slice (some ⟨gb,0,none⟩) n n∧t7= .int .i64 (i:Int)∧t8= .int .u64 (left:Int)∧Hid (i≤n∧left<18446744073709551616∧qLT w wr b s a e0 gl gb n i left a1 e1 f z)) (fun _ _ t7 _ _=>n-(intOf t7).toNat)
  case atStart=>exact ⟨0,x,a1,e1,_,_,rfl,rfl,rfl,rfl,Nat.zero_le _,hx,HT.out⟩
  case round=>
   obtain ⟨i,left,a2,e2,f,z,rfl,rfl,rfl,rfl,hI⟩:=hrel
   by_cases hl0:left=0
   ·subst hl0
    have HFIN:Hid (qAR w b s a e0 n (.returned (.tuple #[.slice (some ⟨gl,0,none⟩) n n,.slice (some ⟨gb,0,none⟩) n n,.bool true])) wr):= .inr ⟨gl,gb,i,a2,e2,f,z,rfl,hI.out.2.2,hC.out.2.2.1,hC.out.2.2.2,hI.out.1⟩
    go_wp2_with fail
    go_ret3
    exact HFIN.out
   ·have hlp:(left:Int)>0:=by omega
    have hl1:0<left∧left<18446744073709551616:=⟨by omega,hI.out.2.1⟩
    have hin:i≤n:=hI.out.1
    go_wp2_with fail
    refine (dS b 0 s a2 e2 wr hI.out.2.2.rd).mono ?_
    rintro e w3 ⟨y,a3,e3,rfl,hy,T3⟩
    have HT3:=qA T3
    clear T3
    have HF:Hid (∀p h r,qLM s a e0 n p h r→y<n-i∧e3=0∧(F32.wh p (h (i+y))).isSome=false∧(∀t,t<y→(F32.wh p (h (i+t))).isSome=true)∧left=F32.cnt p h (i+y+1) (n-i-(y+1))+1∧(rb s).drop a3=bitsOf (h (i+y)) 32++(F32.nt 32 p h (i+y+1) (n-i-(y+1)) 0++r)):=fun p h r hcp=>by
     obtain ⟨q1,q2,q3,q4,q5⟩:=hI.out.2.2.full p h r hcp
     obtain ⟨j,j1,j2,j3,j4,j5⟩:=F32.nt_next 32 p h i (n-i) 0 (by omega)
     rw [j5,Nat.zero_add,List.append_assoc,List.append_assoc] at q3
     obtain ⟨q6,q7,q8⟩:=HT3.out.drop q1 _ _ (show j<18446744073709551616 by omega) q3
     subst q6
     exact ⟨j1,q7,j2,j3,by omega,q8⟩
    have e1:IntKind.u64.wrap ((n:Int)-(i:Int))=((n-i:Nat):Int):=by rw [IntKind.wrap_u64];omega
    obtain ⟨d,hd⟩:∃d,n-i=d:=⟨_,rfl⟩
    rw [hd] at e1
    by_cases hge:d≤y
    ·have hge':(y:Int)≥(d:Int):=by omega
     have HD:=qA hd
     have HBB:Hid (Below b w w3):=hI.out.2.2.bel.trans (HT3.out.only.below (Nat.le_refl _) (by have:=hI.out.2.2.nb.ll;have:=HGL.out;omega))
     have HFIN:Hid (qAR w b s a e0 n (.returned (.tuple #[.slice none 0 0,.slice none 0 0,.bool false])) w3):=by
      refine .inl ⟨rfl,HBB.out,fun p h r hcp=>?_,fun h0=>?_⟩
      ·have:=(HF.out p h r hcp).1;omega
      ·have:=hI.out.2.2.emp h0.1 h0.2;omega
     clear hd
     go_wp2_with fail
     go_ret3
     exact HFIN.out
    ·have hge':¬((y:Int)≥(d:Int)):=by omega
     have hyd:y<d:=by omega
     have hjn:i+y<n:=by omega
     have r2:IntKind.i64.wrap (y:Int)=(y:Int):=by rw [IntKind.wrap_i64];omega
     obtain ⟨j,hj⟩:∃j,i+y=j:=⟨_,rfl⟩
     have r3:(i:Int)+(y:Int)=(j:Int):=by omega
     have r4:IntKind.u64.wrap ((left:Int)-1)=((left-1:Nat):Int):=by rw [IntKind.wrap_u64];omega
     have HJ:=qA (And.intro hj hd)
     have hjn2:j<n:=by omega
     have hij:i≤j:=by omega
     clear hj hd
     go_wp2_with fail
     refine (kK b 0 s a3 e3 w3 HT3.out.rd).mono ?_
     rintro e w4 ⟨v,a4,e4,rfl,hv,T4⟩
     have HT4:Hid (Hk (fun y=>bitsOf y 32) (fun y=>y<2^32) w3 w4 b 0 s a3 e3 v a4 e4):=yW HT3.out.rd.le hv T4
     clear T4
     have HNB:Hid (nJ w4 gl gb n f z∧qJ b 0 3 wr w4):=by
      have O:=HT3.out.only.trans HT4.out.only
      have N:=hI.out.2.2.nb
      exact ⟨N.keep (O.block gl N.ll HGL.out.1) (O.block gb N.lb HGL.out.2.1) O.size,O⟩
     have c1:=HNB.out.1.l j hjn2
     have c2:w4.cell? ⟨gl,j,none⟩=some (.int .u32 (f j:Int)):=c1
     have c3:=HNB.out.1.fl j
     have HN5:=qA (HNB.out.1.setL j v hjn2)
     have d2:=HN5.out.b j hjn2
     have d3:=HN5.out.fb j
     have HN6:=qA (HN5.out.setB j hjn2)
     have HNX:Hid (qLT w ((w4.setCell ⟨gl,j,none⟩ (.int .u32 (v:Int))).setCell ⟨gb,j,none⟩ (.bool true)) b s a e0 gl gb n (j+1) (left-1) a4 e4 (fun i=>if i=j then v else f i) (fun i=>if i=j then true else z i)):=by
      have D:=hI.out.2.2
      have hgl:=HGL.out
      refine ⟨HN6.out,(HT4.out.rd.setOther' gl _ hgl.1 _).setOther' gb _ hgl.2.1 _,((D.bel.trans (HNB.out.2.below (Nat.le_refl _) (by have:=D.nb.ll;omega))).setCell (p:=⟨gl,j,none⟩) (show b≤gl by omega) _).setCell (p:=⟨gb,j,none⟩) (show b≤gb by omega) _,fun g hg hgb=>?_,fun t ht=>?_,fun p h r hcp=>?_,fun h0 _=>by omega⟩
      ·rw [Below.heap_setCell _ _ _ _ (show g≠gb by have:=hC.out.2.2;omega),Below.heap_setCell _ _ _ _ (show g≠gl by have:=hC.out.2.2;omega),HNB.out.2.block g (by have:=D.nb.ll;have:=hC.out.2.2;omega) hgb]
       exact D.oth g hg hgb
      ·by_cases e:t=j
       ·simp only [e,if_true];exact hv
       ·simp only [e,if_false];exact D.rng t ht
      ·obtain ⟨j0,hd0⟩:=HJ.out
       obtain ⟨q1,q2,q3,q4,q5,q6⟩:=HF.out p h r hcp
       obtain ⟨p1,p2,p3,p4,p5⟩:=D.full p h r hcp
       rw [j0] at q3 q5 q6
       obtain ⟨t1,t2,t3⟩:=HT4.out.drop q2 _ _ (show h j<2^32 from hcp.2.1 j hjn2) q6
       have en:n-i-(y+1)=n-(j+1):=by omega
       rw [en] at q5 t3
       refine ⟨t2,by omega,t3,fun t ht=>?_,fun t ht=>?_⟩
       ·by_cases e:t=j
        ·simp only [e,if_true]
         exact ⟨by rw [q3];rfl,fun _=>t1⟩
        ·simp only [e,if_false]
         by_cases e2:t<i
         ·exact p4 t e2
         ·have q7:=q4 (t-i) (by omega)
          rw [show i+(t-i)=t from by omega] at q7
          have q8:=p5 t (by omega)
          exact ⟨by rw [q7,q8];rfl,fun hz=>by rw [q8] at hz;cases hz⟩
       ·simp only [show t≠j by omega,if_false];exact p5 t (by omega)
     clear c1
     go_wp2_with fail
     go_roundw
     case rel=>exact ⟨j+1,left-1,a4,e4,_,_,rfl,rfl,by simp,by simp,hjn2,by omega,HNX.out⟩
     case measure=>simp [intOf];omega
end Go.Proofs.YtkpmalfigmimaaaGreatDoor
