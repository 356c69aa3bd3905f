import Derived.Test.YtkpmalfigmimaaaGreatDoorB1N
import Derived.Laws.CopyOwn
import Derived.Deep.RegionLaw
import Derived.Test.YtkpmalfigmimaaaGreatDoorB1Z
import Derived.WalkMore
import Derived.ScopeJumps
set_option linter.unusedVariables false
set_option linter.unusedSimpArgs false
set_option maxRecDepth 100000
set_option maxHeartbeats 8000000
namespace Go.Proofs.YtkpmalfigmimaaaGreatDoor
open Go.RowKit
open M
def qM (bs:List Nat):List Value:=bs.map fun (n:Nat)=>Value.int .u8 (n:Int)
@[simp] theorem zP (bs:List Nat):(qM bs).length=bs.length:=by simp [qM]
theorem dN (c:Nat) (h:c≤281474976710656) (w:World):
  (Instr.makeSlice 28 (.int .i64 (c:Int)) (.int .i64 (c:Int))).run Tryz.prog w= .ok (.slice (some ⟨w.heap.size,0,none⟩) c c) (w.alloc (.cells (List.replicate c (Value.int .u8 0)).toArray 5)):=by
 have hz:(Tryz.prog.info? 5).bind (·.zero)=some (.int .u8 0):=by kernel_rfl
 have hs:(Tryz.prog.info? 5).map (·.size)=some 1:=by kernel_rfl
 have hb:(Tryz.prog.info? 5).map (·.bytes)=some 1:=by kernel_rfl
 cases hi:Tryz.prog.info? 5 with
 |none=>simp [hi] at hs
 |some i=>
  simp only [hi,Option.bind_some,Option.map_some,Option.some.injEq] at hz hs hb
  rw [run_make w 28 5 i _ Tryz.underlying28 hi hz .i64 .i64 (c:Int) (c:Int) (by omega) (by omega) (by rw [hb];omega) (by omega)]
  have e:madeCells (Value.int .u8 0).cells ((c:Int).toNat*i.size)=(List.replicate c (Value.int .u8 0)).toArray:=by
   rw [hs]
   apply Array.ext
   ·simp [madeCells]
   ·intro j h1 h2
    simp [madeCells,Value.cells,Nat.mod_one]
  rw [e];simp
theorem dV (cur cs:List Value) (o i:Nat) (h:o+cs.length≤cur.length):
  (splice cur o cs)[i]?=if i<o then cur[i]? else if i<o+cs.length then cs[i-o]? else cur[i]?:=by
 unfold splice
 by_cases h1:i<o
 ·rw [if_pos h1,List.getElem?_append_left (by simp;omega),List.getElem?_take_of_lt h1]
 ·rw [if_neg h1,List.getElem?_append_right (by simp;omega),List.length_take,Nat.min_eq_left (by omega)]
  by_cases h2:i<o+cs.length
  ·rw [if_pos h2,List.getElem?_append_left (by omega)]
  ·rw [if_neg h2,List.getElem?_append_right (by omega),List.getElem?_drop]
   congr 1;omega
theorem qGE (b off lo:Nat) (w:World) (l:List Bool) (hW:Wr w lo b off l 0) (hlo:lo≤w.heap.size) (hlen:l.length<1000000000000):
  Calls Tryz.prog 45 #[.pointer (some ⟨b,off,none⟩)] w fun e w'=>e= .returned (.tuple #[.slice (some ⟨w.heap.size,0,none⟩) ((l.length+7)/8) ((l.length+7)/8),.int .i64 0])∧
   w'.heap[w.heap.size]?=some (.cells (qM (packed l)).toArray 5 (0,0))∧Below w.heap.size w w':=by
 obtain ⟨p,hR,hC⟩:=hW
 have h1:=hR.full
 have h2:=hR.len
 have h3:=hR.err
 have hbs:b<w.heap.size:=block_lt_of_cell h1
 have hsz5:(Tryz.prog.info? 5).map (·.size)=some 1:=by kernel_rfl
 generalize hc:(l.length+7)/8=c
 have Hc:Hid ((l.length+7)/8=c):=hc
 clear hc
 have hc1:((l.length:Int)+7)/8=(c:Int):=by have:=Hc.out;omega
 have hmk:=dN c (by have:=Hc.out;omega)
 obtain ⟨Z,hZ⟩:∃Z,Z=List.replicate c (Value.int .u8 0):=⟨_,rfl⟩
 rw [←hZ] at hmk
 have hZl:Z.length=c:=by rw [hZ];simp
 have HZl:Hid (Z.length=c):=hZl
 clear hZ hZl
 obtain ⟨k0,hk0⟩:∃k0,k0=l.length/960:=⟨_,rfl⟩
 have hat:(l.length:Int)/960*120=((120*k0:Nat):Int):=by omega
 obtain ⟨a0,ha0⟩:∃a0,a0=120*k0:=⟨_,rfl⟩
 rw [←ha0] at hat
 have Hk0:Hid (k0=l.length/960):=hk0
 have Ha0:Hid (a0=120*k0):=ha0
 have hac:a0≤c:=by have:=Hc.out;omega
 have hca:c-a0≤120:=by have:=Hc.out;omega
 clear hk0 ha0
 obtain ⟨cs,hcsl,hcsv,hcs1,hcsr⟩:∃cs:List Value,cs.length=Nat.min 120 (c-a0)∧Hid (∀j,j<c-a0→cs[j]?=some (.int .u8 (byteAt l (a0+j))))∧(∀v∈cs,v.oneCell'=true)∧Hid (∀j v,cs[j]?=some v→w.cell? ⟨b,off+1+j,none⟩=some v):=by
  refine ⟨(List.range (c-a0)).map fun (j:Nat)=>Value.int .u8 (byteAt l (a0+j):Int),?_,fun j hj=>?_,fun v hv=>?_,fun j v hv=>?_⟩
  ·simp only [List.length_map,List.length_range];exact (Nat.min_eq_right hca).symm
  ·simp [hj]
  ·simp at hv;obtain ⟨j,_,rfl⟩:=hv;rfl
  ·rw [List.getElem?_map,Option.map_eq_some_iff] at hv
   obtain ⟨i,hi,rfl⟩:=hv
   rw [List.getElem?_eq_some_iff] at hi
   obtain ⟨hi,rfl⟩:=hi
   simp at hi⊢
   have:=hR.last j (by omega)
   rw [this,Ha0.out,Hk0.out]
 have Hcsl:Hid (cs.length=Nat.min 120 (c-a0)):=hcsl
 clear hcsl
 have hcl:cs.length=c-a0:=by rw [Hcsl.out];exact Nat.min_eq_right hca
 have Hcl:Hid (cs.length=c-a0):=hcl
 clear hcl
 have hg1:Hid ((w.alloc (.cells Z.toArray 5)).drew.heap[w.heap.size]?=some (.cells Z.toArray 5 (0,0))):=heap_alloc_new _ _
 have hB1:Below w.heap.size w (w.alloc (.cells Z.toArray 5)).drew:=((Below.refl _ _).alloc (Nat.le_refl _) _).drew
 obtain ⟨o2,ho2⟩:∃o2:Nat,Hid ((c=a0→o2=0)∧(c≠a0→o2=a0)):=⟨if c=a0 then 0 else a0,by constructor<;>intro h<;>simp [h]⟩
 ·go_enter Tryz.func45,Tryz.ntmps45
  go_wp2_with fail
  refine Code.wp_mono (Q:=fun e a w'=>e= .normal∧a=⟨#[.pointer (some ⟨b,off,none⟩),undef,.slice none 0 0,.int .i64 0,.slice (some ⟨w.heap.size,0,none⟩) c c,.int .i64 (a0:Int),undef,.pointer (some ⟨b,off,none⟩),.pointer (some ⟨b,off,none⟩),.pointer (some ⟨b,off+122,none⟩),.int .i64 0,.bool false,undef,undef,undef,undef,.pointer (some ⟨b,off,none⟩),.pointer (some ⟨b,off,none⟩),.pointer (some ⟨b,off+121,none⟩),.int .i64 (l.length:Int),.int .i64 ((l.length:Int)+7),.int .i64 (((l.length:Int)+7)/8),.slice (some ⟨w.heap.size,0,none⟩) c c,.pointer (some ⟨b,off,none⟩),.pointer (some ⟨b,off,none⟩),.pointer (some ⟨b,off+121,none⟩),.int .i64 (l.length:Int),.int .i64 ((l.length:Int)/960),.int .i64 (a0:Int),.slice (some ⟨w.heap.size,0,none⟩) c c,.int .i64 (a0:Int),.slice (some ⟨w.heap.size,o2,none⟩) (c-a0) (c-a0),.pointer (some ⟨b,off,none⟩),.pointer (some ⟨b,off,none⟩),.pointer (some ⟨b,off+1,none⟩),.slice (some ⟨b,off+1,none⟩) 120 120,.int .i64 (cs.length:Int),undef,undef,undef,undef,undef,undef,undef,undef,undef,undef,undef,undef,undef,undef,undef,undef,undef,undef,undef,undef,undef],[]⟩∧Hid (w'.heap[w.heap.size]?=some (.cells (splice Z a0 cs).toArray 5 (0,0)))∧Below w.heap.size w w') ?h1 ?h2
  case h2=>
   refine wp_region_any (by kernel_rfl) ?_
   change wpAny _ _ _ _ _ _ _ (World.drew _)
   refine wpAny_take (i:=0) (v:= .slice (some ⟨w.heap.size,0,none⟩) c c) rfl (by kernel_rfl) (by kernel_rfl) (by kernel_rfl) (fun _ _ _ h=>absurd h.1 (by simp)) (Or.inl ⟨by rfl,?_⟩) ?_
   ·intro w;go_simp
   refine wpAny_take (i:=1) (v:= .int .i64 (a0:Int)) rfl (by kernel_rfl) (by kernel_rfl) (by kernel_rfl) (fun _ _ _ h=>absurd h.1 (by simp)) (Or.inl ⟨by rfl,?_⟩) ?_
   ·intro w;go_simp
   refine wpAny_take (i:=2) (v:= .slice (some ⟨w.heap.size,o2,none⟩) (c-a0) (c-a0)) rfl (by kernel_rfl) (by kernel_rfl) (by kernel_rfl) (fun _ _ _ h=>absurd h.1 (by simp)) (Or.inl ⟨by rfl,?_⟩) ?_
   ·intro w;go_simp;have h2:=ho2.out;by_cases hca0:c=a0<;>simp [hca0]<;>omega
   refine wpAny_take (i:=3) (v:= .pointer (some ⟨b,off,none⟩)) rfl (by kernel_rfl) (by kernel_rfl) (by kernel_rfl) (fun _ _ _ h=>absurd h.1 (by simp)) (Or.inl ⟨by rfl,?_⟩) ?_
   ·intro w;go_simp
   refine wpAny_take (i:=4) (v:= .pointer (some ⟨b,off,none⟩)) rfl (by kernel_rfl) (by kernel_rfl) (by kernel_rfl) (fun _ _ _ h=>absurd h.1 (by simp)) (Or.inl ⟨by rfl,?_⟩) ?_
   ·intro w;go_simp
   refine wpAny_take (i:=5) (v:= .pointer (some ⟨b,off+1,none⟩)) rfl (by kernel_rfl) (by kernel_rfl) (by kernel_rfl) (fun _ _ _ h=>absurd h.1 (by simp)) (Or.inl ⟨by rfl,?_⟩) ?_
   ·intro w;go_simp
   refine wpAny_take (i:=6) (v:= .slice (some ⟨b,off+1,none⟩) 120 120) rfl (by kernel_rfl) (by kernel_rfl) (by kernel_rfl) (fun _ _ _ h=>absurd h.1 (by simp)) (Or.inl ⟨by rfl,?_⟩) ?_
   ·intro w;go_simp
   change wpAny _ _ _ _ _ _ ⟨#[.pointer (some ⟨b,off,none⟩),undef,.slice none 0 0,.int .i64 0,.slice (some ⟨w.heap.size,0,none⟩) c c,.int .i64 (a0:Int),undef,.pointer (some ⟨b,off,none⟩),.pointer (some ⟨b,off,none⟩),.pointer (some ⟨b,off+122,none⟩),.int .i64 0,.bool false,undef,undef,undef,undef,.pointer (some ⟨b,off,none⟩),.pointer (some ⟨b,off,none⟩),.pointer (some ⟨b,off+121,none⟩),.int .i64 (l.length:Int),.int .i64 ((l.length:Int)+7),.int .i64 (((l.length:Int)+7)/8),.slice (some ⟨w.heap.size,0,none⟩) c c,.pointer (some ⟨b,off,none⟩),.pointer (some ⟨b,off,none⟩),.pointer (some ⟨b,off+121,none⟩),.int .i64 (l.length:Int),.int .i64 ((l.length:Int)/960),.int .i64 (a0:Int),.slice (some ⟨w.heap.size,0,none⟩) c c,.int .i64 (a0:Int),.slice (some ⟨w.heap.size,o2,none⟩) (c-a0) (c-a0),.pointer (some ⟨b,off,none⟩),.pointer (some ⟨b,off,none⟩),.pointer (some ⟨b,off+1,none⟩),.slice (some ⟨b,off+1,none⟩) 120 120,undef,undef,undef,undef,undef,undef,undef,undef,undef,undef,undef,undef,undef,undef,undef,undef,undef,undef,undef,undef,undef,undef],[]⟩ _
   refine wpAny_ready (rs:=[7]) (by kernel_rfl) (by simp) ?_
   refine AllReady.cons rfl (fun K hK=>?_) AllReady.nil
   refine step_copy_splice rfl _ _ 28 28 rfl 5 Tryz.underlying28 hsz5 _ _ _ _ _ _ rfl rfl w.heap.size a0 Z 5 hg1.out cs Hcsl.out (fun hp=>⟨?_,_,rfl,fun j v hv=>?_⟩) ?_ hcs1 w.heap.size w hB1 (Nat.le_refl _) ?_
   ·rw [ho2.out.2 (by rw [Hcl.out] at hp;omega)]
   ·rw [Addr.add_mid]
    exact (World.cell?_of_block (w:=w) (w':=w.alloc (.cells Z.toArray 5)) (a:=⟨b,off+1+j,none⟩) (Below.heap_alloc w _ b hbs)).trans (hcsr.out j v hv)
   ·rw [Hcl.out,HZl.out];omega
   ·intro w2 hg2 hB2
    refine hK _ _ ?_
    clear hK K
    refine wpAny_done (by kernel_rfl) ?_ _
    exact ⟨rfl,rfl,hg2,hB2⟩
  case h1=>
   rintro e a w2 ⟨rfl,rfl,hg2,hB2⟩
   have d1:w2.cell? ⟨b,off,none⟩=some (.pointer p):=(hB2.cell (p:=⟨b,off,none⟩) hbs).trans h1
   have hcur:Hid ((splice Z a0 cs).length=c∧∀i,120*k0≤i→i<c→(splice Z a0 cs)[i]?=some (.int .u8 (byteAt l i))):=by
    have e0:=Ha0.out
    refine ⟨by rw [length_splice _ _ _ (by rw [Hcl.out,HZl.out];omega)];exact HZl.out,fun i hi1 hi2=>?_⟩
    rw [dV _ _ _ _ (by rw [Hcl.out,HZl.out];omega),if_neg (by omega),if_pos (by rw [Hcl.out];omega),hcsv.out _ (by omega),show a0+(i-a0)=i from by omega]
   have hC0:Hid (xD w lo l k0 p):=by rw [Hk0.out];exact hC
   clear hC hR h1 h2 h3 hg1 hB1 hcsr hcsv hcs1
   go_wp2_with fail
   go_loopw [5,6] (fun t6 t7 wr=>∃(k a1:Nat) (q:Option Addr) (cur:List Value),Hid (a1=120*k∧k≤k0)∧t6= .int .i64 a1∧t7= .pointer q∧Hid (xD w lo l k q)∧Hid (cur.length=c∧∀i,120*k≤i→i<c→cur[i]?=some (.int .u8 (byteAt l i)))∧
    Hid (wr.heap[w.heap.size]?=some (.cells cur.toArray 5 (0,0)))∧Below w.heap.size w wr) (fun t6 _ _=>(intOf t6).toNat)
   case atStart=>exact ⟨k0,a0,p,_,⟨Ha0.out,Nat.le_refl _⟩,rfl,rfl,hC0,hcur,hg2,hB2⟩
   case round=>
    obtain ⟨k,a1,q,cur,hk,rfl,rfl,hCk,hcu,hgr,hBr⟩:=hrel
    cases k with
    |zero=>
     obtain rfl:q=none:=hCk.out
     go_wp2_with fail
     go_ret2
     refine ⟨rfl,?_,hBr⟩
     rw [hgr.out]
     congr 3
     apply List.ext_getElem?
     intro i
     by_cases hi:i<c
     ·rw [hcu.out.2 i (by omega) hi]
      have hi':i<(l.length+7)/8:=by rw [Hc.out];exact hi
      simp [qM,packed,hi']
     ·rw [List.getElem?_eq_none (by rw [hcu.out.1];omega),List.getElem?_eq_none (by rw [zP,packed_length,Hc.out];omega)]
    |succ k=>
     obtain ⟨c',q',rfl,hc',hK',hC'⟩:=hCk.out
     clear hCk
     obtain ⟨a2,ha2⟩:∃a2,a2=120*k:=⟨_,rfl⟩
     have Ha2:Hid (a2=120*k):=ha2
     clear ha2
     have hsub:(a1:Int)-120=(a2:Int):=by have:=hk.out;have:=Ha2.out;omega
     have ha1c:a2+120≤c:=by have:=hk.out;have:=Ha2.out;have:=Hk0.out;have:=Hc.out;omega
     have hle2:a2≤c:=by omega
     have hne2:¬c=a2:=by omega
     have hbd:a1≤1000000000000:=by have:=hk.out;have:=Hk0.out;omega
     obtain ⟨cs2,h2l,h2v,h21,h2r⟩:∃cs2:List Value,Hid (cs2.length=Nat.min 120 (c-a2)∧cs2.length=120)∧Hid (∀j,j<120→cs2[j]?=some (.int .u8 (byteAt l (a2+j))))∧(∀v∈cs2,v.oneCell'=true)∧Hid (∀j v,cs2[j]?=some v→w.cell? ⟨c',1+j,none⟩=some v):=by
      refine ⟨(List.range 120).map fun (j:Nat)=>Value.int .u8 (byteAt l (a2+j):Int),⟨?_,by simp⟩,fun j hj=>?_,fun v hv=>?_,fun j v hv=>?_⟩
      ·simp only [List.length_map,List.length_range];exact (Nat.min_eq_left (by omega)).symm
      ·simp [hj]
      ·simp at hv;obtain ⟨j,_,rfl⟩:=hv;rfl
      ·rw [List.getElem?_map,Option.map_eq_some_iff] at hv
       obtain ⟨i,hi,rfl⟩:=hv
       rw [List.getElem?_eq_some_iff] at hi
       obtain ⟨hi,rfl⟩:=hi
       simp at hi⊢
       have:=hK'.2 j hi
       rw [this,Ha2.out]
     have hc'w:c'<w.heap.size:=hK'.lt
     have hcell0:w.cell? ⟨c',0,none⟩=some (.pointer q'):=hK'.1
     have hgr':Hid (wr.drew.heap[w.heap.size]?=some (.cells cur.toArray 5 (0,0))):=hgr.out
     have hBr':Below w.heap.size w wr.drew:=hBr.drew
     clear hK'
     go_wp2_with fail
     refine Code.wp_mono (Q:=fun e a w'=>e= .normal∧a=⟨#[.pointer (some ⟨b,off,none⟩),undef,.slice none 0 0,.int .i64 0,.slice (some ⟨w.heap.size,0,none⟩) c c,.int .i64 (a2:Int),.pointer (some ⟨c',0,none⟩),.pointer (some ⟨b,off,none⟩),.pointer (some ⟨b,off,none⟩),.pointer (some ⟨b,off+122,none⟩),.int .i64 0,.bool false,undef,undef,undef,undef,.pointer (some ⟨b,off,none⟩),.pointer (some ⟨b,off,none⟩),.pointer (some ⟨b,off+121,none⟩),.int .i64 (l.length:Int),.int .i64 ((l.length:Int)+7),.int .i64 (((l.length:Int)+7)/8),.slice (some ⟨w.heap.size,0,none⟩) c c,.pointer (some ⟨b,off,none⟩),.pointer (some ⟨b,off,none⟩),.pointer (some ⟨b,off+121,none⟩),.int .i64 (l.length:Int),.int .i64 ((l.length:Int)/960),.int .i64 (a0:Int),.slice (some ⟨w.heap.size,0,none⟩) c c,.int .i64 (a0:Int),.slice (some ⟨w.heap.size,o2,none⟩) (c-a0) (c-a0),.pointer (some ⟨b,off,none⟩),.pointer (some ⟨b,off,none⟩),.pointer (some ⟨b,off+1,none⟩),.slice (some ⟨b,off+1,none⟩) 120 120,.int .i64 (cs.length:Int),.pointer (some ⟨b,off,none⟩),.pointer (some ⟨b,off,none⟩),.pointer (some ⟨b,off,none⟩),.pointer p,.pointer (some ⟨c',0,none⟩),.bool true,u43,u44,u45,u46,.int .i64 (a1:Int),.int .i64 (a2:Int),.slice (some ⟨w.heap.size,0,none⟩) c c,.int .i64 (a2:Int),.slice (some ⟨w.heap.size,a2,none⟩) (c-a2) (c-a2),.pointer (some ⟨c',0,none⟩),.pointer (some ⟨c',0,none⟩),.pointer (some ⟨c',1,none⟩),.slice (some ⟨c',1,none⟩) 120 120,.int .i64 (cs2.length:Int),undef],[]⟩∧Hid (w'.heap[w.heap.size]?=some (.cells (splice cur a2 cs2).toArray 5 (0,0)))∧Below w.heap.size w w') ?g1 ?g2
     case g2=>
      refine wp_region_any (by kernel_rfl) ?_
      change wpAny _ _ _ _ _ _ _ (World.drew _)
      refine wpAny_take (i:=0) (v:= .slice (some ⟨w.heap.size,0,none⟩) c c) rfl (by kernel_rfl) (by kernel_rfl) (by kernel_rfl) (fun _ _ _ h=>absurd h.1 (by simp)) (Or.inl ⟨by rfl,?_⟩) ?_
      ·intro w;go_simp
      refine wpAny_take (i:=1) (v:= .int .i64 (a2:Int)) rfl (by kernel_rfl) (by kernel_rfl) (by kernel_rfl) (fun _ _ _ h=>absurd h.1 (by simp)) (Or.inl ⟨by rfl,?_⟩) ?_
      ·intro w;go_simp
      refine wpAny_take (i:=2) (v:= .slice (some ⟨w.heap.size,a2,none⟩) (c-a2) (c-a2)) rfl (by kernel_rfl) (by kernel_rfl) (by kernel_rfl) (fun _ _ _ h=>absurd h.1 (by simp)) (Or.inl ⟨by rfl,?_⟩) ?_
      ·intro w;go_simp
      refine wpAny_take (i:=3) (v:= .pointer (some ⟨c',0,none⟩)) rfl (by kernel_rfl) (by kernel_rfl) (by kernel_rfl) (fun _ _ _ h=>absurd h.1 (by simp)) (Or.inl ⟨by rfl,?_⟩) ?_
      ·intro w;go_simp
      refine wpAny_take (i:=4) (v:= .pointer (some ⟨c',0,none⟩)) rfl (by kernel_rfl) (by kernel_rfl) (by kernel_rfl) (fun _ _ _ h=>absurd h.1 (by simp)) (Or.inl ⟨by rfl,?_⟩) ?_
      ·intro w;go_simp
      refine wpAny_take (i:=5) (v:= .pointer (some ⟨c',1,none⟩)) rfl (by kernel_rfl) (by kernel_rfl) (by kernel_rfl) (fun _ _ _ h=>absurd h.1 (by simp)) (Or.inl ⟨by rfl,?_⟩) ?_
      ·intro w;go_simp
      refine wpAny_take (i:=6) (v:= .slice (some ⟨c',1,none⟩) 120 120) rfl (by kernel_rfl) (by kernel_rfl) (by kernel_rfl) (fun _ _ _ h=>absurd h.1 (by simp)) (Or.inl ⟨by rfl,?_⟩) ?_
      ·intro w;go_simp
      change wpAny _ _ _ _ _ _ ⟨#[.pointer (some ⟨b,off,none⟩),undef,.slice none 0 0,.int .i64 0,.slice (some ⟨w.heap.size,0,none⟩) c c,.int .i64 (a2:Int),.pointer (some ⟨c',0,none⟩),.pointer (some ⟨b,off,none⟩),.pointer (some ⟨b,off,none⟩),.pointer (some ⟨b,off+122,none⟩),.int .i64 0,.bool false,undef,undef,undef,undef,.pointer (some ⟨b,off,none⟩),.pointer (some ⟨b,off,none⟩),.pointer (some ⟨b,off+121,none⟩),.int .i64 (l.length:Int),.int .i64 ((l.length:Int)+7),.int .i64 (((l.length:Int)+7)/8),.slice (some ⟨w.heap.size,0,none⟩) c c,.pointer (some ⟨b,off,none⟩),.pointer (some ⟨b,off,none⟩),.pointer (some ⟨b,off+121,none⟩),.int .i64 (l.length:Int),.int .i64 ((l.length:Int)/960),.int .i64 (a0:Int),.slice (some ⟨w.heap.size,0,none⟩) c c,.int .i64 (a0:Int),.slice (some ⟨w.heap.size,o2,none⟩) (c-a0) (c-a0),.pointer (some ⟨b,off,none⟩),.pointer (some ⟨b,off,none⟩),.pointer (some ⟨b,off+1,none⟩),.slice (some ⟨b,off+1,none⟩) 120 120,.int .i64 (cs.length:Int),.pointer (some ⟨b,off,none⟩),.pointer (some ⟨b,off,none⟩),.pointer (some ⟨b,off,none⟩),.pointer p,.pointer (some ⟨c',0,none⟩),.bool true,u43,u44,u45,u46,.int .i64 (a1:Int),.int .i64 (a2:Int),.slice (some ⟨w.heap.size,0,none⟩) c c,.int .i64 (a2:Int),.slice (some ⟨w.heap.size,a2,none⟩) (c-a2) (c-a2),.pointer (some ⟨c',0,none⟩),.pointer (some ⟨c',0,none⟩),.pointer (some ⟨c',1,none⟩),.slice (some ⟨c',1,none⟩) 120 120,u56,undef],[]⟩ _
      refine wpAny_ready (rs:=[7]) (by kernel_rfl) (by simp) ?_
      refine AllReady.cons rfl (fun K hK=>?_) AllReady.nil
      refine step_copy_splice rfl _ _ 28 28 rfl 5 Tryz.underlying28 hsz5 _ _ _ _ _ _ rfl rfl w.heap.size a2 cur 5 hgr'.out cs2 h2l.out.1 (fun hp=>⟨rfl,_,rfl,fun j v hv=>?_⟩) ?_ h21 w.heap.size w hBr' (Nat.le_refl _) ?_
      ·rw [Addr.add_mid]
       exact (hBr'.cell (p:=⟨c',1+j,none⟩) hc'w).trans (h2r.out j v hv)
      ·rw [h2l.out.2,hcu.out.1];omega
      ·intro w3 hg3 hB3
       refine hK _ _ ?_
       clear hK K
       refine wpAny_done (by kernel_rfl) ?_ _
       exact ⟨rfl,rfl,hg3,hB3⟩
     case g1=>
      rintro e a w3 ⟨rfl,rfl,hg3,hB3⟩
      have d3:w3.cell? ⟨c',0,none⟩=some (.pointer q'):=(hB3.cell (p:=⟨c',0,none⟩) hc'w).trans hcell0
      have hcu3:Hid ((splice cur a2 cs2).length=c∧∀i,120*k≤i→i<c→(splice cur a2 cs2)[i]?=some (.int .u8 (byteAt l i))):=by
       have e2:=Ha2.out
       have e3:a2+cs2.length≤cur.length:=by rw [h2l.out.2,hcu.out.1];omega
       refine ⟨by rw [length_splice _ _ _ e3];exact hcu.out.1,fun i hi1 hi2=>?_⟩
       rw [dV _ _ _ _ e3,if_neg (by omega),h2l.out.2]
       by_cases hi3:i<a2+120
       ·rw [if_pos hi3,h2v.out _ (by omega),show a2+(i-a2)=i from by omega]
       ·rw [if_neg hi3];exact hcu.out.2 i (by omega) hi2
      clear hcell0
      go_wp2_with fail
      go_roundw
      case rel=>exact ⟨k,a2,q',_,⟨Ha2.out,by have:=hk.out;omega⟩,rfl,rfl,hC',hcu3,hg3,hB3⟩
      case measure=>simp [intOf];omega
end Go.Proofs.YtkpmalfigmimaaaGreatDoor
namespace Go.Proofs.YtkpmalfigmimaaaGreatDoor
open Go.RowKit
open M
def zW:Array Value:=(Value.pointer none::(List.replicate 120 (Value.int .u8 0)++[.int .i64 0,.int .i64 0])).toArray
theorem gO {w:World} {b lo:Nat} {t:TypeId} (hn:w.heap[b]?=some (.cells zW t (0,0))):Wr w lo b 0 [] 0:=by
 have h0:zW[0]?=some (.pointer none):=by kernel_rfl
 have h1:zW[121]?=some (.int .i64 0):=by kernel_rfl
 have h2:zW[122]?=some (.int .i64 0):=by kernel_rfl
 refine ⟨none,⟨?_,fun j hj=>?_,?_,?_,fun j hj=>?_⟩,rfl⟩
 ·rw [cell_of_row _ _ _ _ _ _ hn];exact h0
 ·rw [cell_of_row _ _ _ _ _ _ hn,show 0+1+j=j+1 from by omega,zW]
  simp only [List.getElem?_toArray,List.getElem?_cons_succ]
  rw [List.getElem?_append_left (by simpa using hj),List.getElem?_replicate,if_pos hj]
  simp [byteAt]
 ·rw [cell_of_row _ _ _ _ _ _ hn];exact h1
 ·rw [cell_of_row _ _ _ _ _ _ hn];exact h2
 ·exact frozen_of_row _ _ _ _ _ hn
theorem zI:(Tryz.prog.built 98 (#[]:Array (Nat×Value)).toList).getD #[]=zW:=by kernel_rfl
theorem qJ.below {b o1 o2:Nat} {w w':World} (h:qJ b o1 o2 w w') {B:Nat} (hB:B≤b) (hs:B≤w.heap.size):Below B w w':=
 ⟨h.os,h.tape,h.output,h.size,fun k hk=>h.block k (by omega) (by omega)⟩
theorem jD {w:World} {g:Nat} {bs:List Nat} {cap:Nat} (h:w.heap[g]?=some (.cells (qM bs).toArray 5 (0,0))):yD w (.slice (some ⟨g,0,none⟩) bs.length cap) bs:=by
 refine .inr ⟨g,0,cap,rfl,fun i hi=>?_⟩
 rw [cell_of_row _ _ _ _ _ _ h]
 simp [qM,hi]
theorem qW (b off lo:Nat) (w:World) (l:List Bool) (hW:Wr w lo b off l 0) (hlo:lo≤w.heap.size) (hlen:l.length<1000000000000) (bs:List Nat) (hbs:packed l=bs):
  Calls Tryz.prog 45 #[.pointer (some ⟨b,off,none⟩)] w fun e w'=>e= .returned (.tuple #[.slice (some ⟨w.heap.size,0,none⟩) bs.length bs.length,.int .i64 0])∧
   w'.heap[w.heap.size]?=some (.cells (qM bs).toArray 5 (0,0))∧Below w.heap.size w w':=by
 subst hbs
 rw [packed_length]
 exact qGE b off lo w l hW hlo hlen
theorem qV (bs:List Nat) (h:∀n∈bs,n<256):rb (qG bs)=rbits bs:=by rw [rb,kY bs h]
theorem zU (l:List Bool):∀n∈packed l,n<256:=by
 intro n hn
 simp [packed] at hn
 obtain ⟨i,_,rfl⟩:=hn
 exact byteAt_lt _ _
end Go.Proofs.YtkpmalfigmimaaaGreatDoor
namespace Go.Proofs.YtkpmalfigmimaaaGreatDoor
open Go.RowKit
open M
theorem xG {w:World} {o:Obj} {k:Nat} (h:w.heap[k]?=some o) (p:Obj):(w.alloc p).heap[k]?=some o:=by
 have hk:k<w.heap.size:=by
  rcases Nat.lt_or_ge k w.heap.size with h1|h1
  ·exact h1
  ·rw [Array.getElem?_eq_none h1] at h;cases h
 rw [Below.heap_alloc _ _ _ hk];exact h
theorem Raw.other {w w':World} {b off:Nat} {p:Option Addr} {f:Nat→Nat} {n:Nat} {e:Int} (h:Raw w b off p f n e) {b' o1 o2:Nat} (ho:qJ b' o1 o2 w w') (hne:b≠b'):Raw w' b off p f n e:=by
 have hb:b<w.heap.size:=block_lt_of_cell h.full
 have hc:∀i,w'.cell? ⟨b,i,none⟩=w.cell? ⟨b,i,none⟩:=fun i=>World.cell?_of_block (w:=w) (ho.block b hb hne)
 refine ⟨by rw [hc];exact h.full,fun j hj=>by rw [hc];exact h.last j hj,by rw [hc];exact h.len,by rw [hc];exact h.err,fun j hj=>?_⟩
 rw [World.frozen?_of_block (w:=w) (w':=w') (a:=⟨b,off+j,none⟩) (ho.block b hb hne)];exact h.fz j hj
theorem Wr.other {w w':World} {lo b off:Nat} {l:List Bool} {e:Int} (h:Wr w lo b off l e) {b' o1 o2:Nat} (ho:qJ b' o1 o2 w w') (hne:b≠b') (hlo:b'<lo):Wr w' lo b off l e:=by
 obtain ⟨p,hR,hC⟩:=h
 exact ⟨p,hR.other ho hne,xD.only ho hlo hC⟩
theorem uZ:∀(k x:Nat),(groups k x).length%8=0∧8≤(groups k x).length∧(groups k x).length≤8*(k+1):=by
 intro k
 induction k with
 |zero=>intro x;simp [groups]
 |succ k ih=>
  intro x
  by_cases hx:x<128
  ·rw [groups_small _ _ hx];simp;omega
  ·rw [groups_big _ _ (by omega)]
   have:=ih (x/128)
   simp;omega
theorem sZ (x:Nat):8≤(varB x).length:=(uZ 9 x).2.1
theorem jV (x:Nat):(varB x).length≤80:=(uZ 9 x).2.2
end Go.Proofs.YtkpmalfigmimaaaGreatDoor
namespace Go.Proofs.YtkpmalfigmimaaaGreatDoor
open Go.RowKit
open M
theorem Raw.below {w w':World} {b off:Nat} {p:Option Addr} {f:Nat→Nat} {n:Nat} {e:Int} (h:Raw w b off p f n e) {B:Nat} (hB:Below B w w') (hb:b<B):Raw w' b off p f n e:=by
 have hc:∀i,w'.cell? ⟨b,i,none⟩=w.cell? ⟨b,i,none⟩:=fun i=>hB.cell (p:=⟨b,i,none⟩) hb
 refine ⟨by rw [hc];exact h.full,fun j hj=>by rw [hc];exact h.last j hj,by rw [hc];exact h.len,by rw [hc];exact h.err,fun j hj=>?_⟩
 rw [hB.frozen (p:=⟨b,off+j,none⟩) hb];exact h.fz j hj
theorem xD.below {w w':World} {lo:Nat} {l:List Bool} (hB:Below w.heap.size w w'):∀{k:Nat} {p:Option Addr},xD w lo l k p→xD w' lo l k p
 |0,_,h=>h
 |_+1,_,⟨c,q,hp,hc,hk,hr⟩=>⟨c,q,hp,hc,⟨by rw [hB.cell (p:=⟨c,0,none⟩) hk.lt];exact hk.1,fun j hj=>by rw [hB.cell (p:=⟨c,1+j,none⟩) hk.lt];exact hk.2 j hj⟩,xD.below hB hr⟩
theorem Wr.below {w w':World} {lo b off:Nat} {l:List Bool} {e:Int} (h:Wr w lo b off l e) (hB:Below w.heap.size w w'):Wr w' lo b off l e:=by
 obtain ⟨p,hR,hC⟩:=h
 exact ⟨p,hR.below hB (block_lt_of_cell hR.full),xD.below hB hC⟩
theorem Rd.below {w w':World} {b off:Nat} {s:ByteArray} {a:Nat} {e:Int} (h:Rd w b off s a e) {B:Nat} (hB:Below B w w') (hb:b<B):Rd w' b off s a e:=by
 have hc:∀i,w'.cell? ⟨b,i,none⟩=w.cell? ⟨b,i,none⟩:=fun i=>hB.cell (p:=⟨b,i,none⟩) hb
 refine ⟨by rw [hc];exact h.text,by rw [hc];exact h.at_,by rw [hc];exact h.err,fun j hj=>?_,h.size,h.le⟩
 rw [hB.frozen (p:=⟨b,off+j,none⟩) hb];exact h.fz j hj
theorem Rd.other {w w':World} {b off:Nat} {s:ByteArray} {a:Nat} {e:Int} (h:Rd w b off s a e) {b' o1 o2:Nat} (ho:qJ b' o1 o2 w w') (hne:b≠b'):Rd w' b off s a e:=by
 have hb:b<w.heap.size:=block_lt_of_cell h.text
 have hc:∀i,w'.cell? ⟨b,i,none⟩=w.cell? ⟨b,i,none⟩:=fun i=>World.cell?_of_block (w:=w) (ho.block b hb hne)
 refine ⟨by rw [hc];exact h.text,by rw [hc];exact h.at_,by rw [hc];exact h.err,fun j hj=>?_,h.size,h.le⟩
 rw [World.frozen?_of_block (w:=w) (w':=w') (a:=⟨b,off+j,none⟩) (ho.block b hb hne)];exact h.fz j hj
theorem rV {w w':World} {v:Value} {bs:List Nat} (h:yD w v bs) (hB:Below w.heap.size w w'):yD w' v bs:=by
 rcases h with h|⟨g,o,cap,hv,hc⟩
 ·exact .inl h
 ·exact .inr ⟨g,o,cap,hv,fun i hi=>by rw [hB.cell (p:=⟨g,o+i,none⟩) (block_lt_of_cell (hc i hi))];exact hc i hi⟩
theorem qFW (l:List Bool):rb (qG (packed l))=l++List.replicate (8*((l.length+7)/8)-l.length) false:=by
 rw [qV _ (zU l),rbits_packed]
theorem fE (k:Nat):num (List.replicate k false)=0:=by
 induction k with
 |zero=>rfl
 |succ k ih=>simp [List.replicate_succ,num,ih]
theorem pB (l:List Bool):pU (qG (packed l)) l.length 0=0:=by
 have hs:(qG (packed l)).size=(l.length+7)/8:=by simp
 unfold pU
 rw [if_pos rfl,if_neg (by rw [hs];omega),qFW,List.drop_left' rfl,fE,if_pos rfl]
theorem qB {w:World} {g:Nat} {o:Obj} (h:w.heap[g]?=some o):g<w.heap.size:=by
 rcases Nat.lt_or_ge g w.heap.size with h1|h1
 ·exact h1
 ·rw [Array.getElem?_eq_none h1] at h;cases h
end Go.Proofs.YtkpmalfigmimaaaGreatDoor
namespace Go.Proofs.YtkpmalfigmimaaaGreatDoor
open Go.RowKit
open M
def jW (w:World) (v:Value) (bs:List Nat):Prop:=yD w v bs∨∃ad cap,v= .slice (some ad) 0 cap∧bs=[]
theorem yJ (w:World) (v:Value) (bs:List Nat) (h:jW w v bs):(convert 28 9 v).run Tryz.prog w= .ok (.string (qG bs)) w:=by
 rcases h with h|⟨ad,cap,rfl,rfl⟩
 ·exact wL w v bs h
 ·rw [run_convert_bytes_string w 28 9 5 _ 0 cap Tryz.underlying28 Tryz.underlying5 Tryz.underlying9,run_bytesToString w ad 0 cap [] (by simp [loadCells,loadCellsFrom])];rfl
theorem kJ (w:World) (v:Value) (bs:List Nat) (h:jW w v bs):
  Calls Tryz.prog 75 #[v] w fun e w'=>e= .returned (.pointer (some ⟨w.heap.size,0,none⟩))∧w'=w.alloc (.cells #[.string (qG bs),.int .i64 0,.int .i64 0] 151):=by
 rcases h with h|⟨ad,cap,rfl,rfl⟩
 ·exact qH5 w v bs h
 ·have hcv:=yJ w (.slice (some ad) 0 cap) [] (.inr ⟨ad,cap,rfl,rfl⟩)
  go_enter Tryz.func75,Tryz.ntmps75
  go_wp2
  go_ret
  exact ⟨rfl,rfl⟩
theorem qD {w w':World} {v:Value} {bs:List Nat} (h:jW w v bs) (hB:Below w.heap.size w w'):jW w' v bs:=by
 rcases h with h|h
 ·exact .inl (rV h hB)
 ·exact .inr h
end Go.Proofs.YtkpmalfigmimaaaGreatDoor
namespace Go.Proofs.YtkpmalfigmimaaaGreatDoor
open Go.RowKit
open M
theorem qID (l:List Bool) (j:Nat) (h:j<l.length):num ((l.drop j).take 1)=if l[j] then 1 else 0:=by
 have e:(l.drop j).take 1=[l[j]]:=by
  rw [List.drop_eq_getElem_cons h];rfl
 rw [e];simp [num]
end Go.Proofs.YtkpmalfigmimaaaGreatDoor
namespace Go.Proofs.YtkpmalfigmimaaaGreatDoor
open Go.RowKit
open M
theorem uS (l:List Bool) (a n:Nat) (m:List Bool) (h:(l.drop a).take n=m):l.take (a+n)=l.take a++m:=by
 rw [List.take_add,h]
theorem gN (s:ByteArray) (a:Nat):(∃x en,readG 10 ((rb s).drop a) 0 0 a=(x,en,0)∧x<2^64∧(a≤8*s.size→en≤8*s.size)∧(rb s).take en=(rb s).take a++varB x)∨∃c,0<c∧readG 10 ((rb s).drop a) 0 0 a=(0,0,c):=by
 rcases readG_err 9 ((rb s).drop a) 0 0 a rfl with h|⟨h1,h2,h3⟩
 ·left
  generalize hr:readG 10 ((rb s).drop a) 0 0 a=r at*
  obtain ⟨x,en,c⟩:=r
  simp only at h
  subst h
  obtain ⟨hx,hen,rest,hl⟩:=varB_form _ _ _ _ hr
  refine ⟨x,en,rfl,hx,fun ha=>?_,?_⟩
  ·have h1:((rb s).drop a).length=(varB x).length+rest.length:=by rw [hl];simp
   simp [rb] at h1
   omega
  ·rw [hen]
   exact uS _ _ _ _ (by rw [hl];exact List.take_left' rfl)
 ·right
  generalize hr:readG 10 ((rb s).drop a) 0 0 a=r at*
  obtain ⟨x,en,c⟩:=r
  simp only at h1 h2 h3
  subst h1 h2
  exact ⟨c,by omega,rfl⟩
theorem uV (x:Nat) (h:x<18446744073709551616): -9223372036854775808≤zag x∧zag x≤9223372036854775807:=by
 unfold zag;split<;>omega
theorem qFX:∀(a b:List Nat),(∀n∈a,n<256)→(∀n∈b,n<256)→rbits a=rbits b→a=b:=by
 intro a
 induction a with
 |nil=>
  intro b _ _ h
  cases b with
  |nil=>rfl
  |cons y b=>have:=congrArg List.length h;simp at this;omega
 |cons x a ih=>
  intro b ha hb h
  cases b with
  |nil=>have:=congrArg List.length h;simp at this
  |cons y b=>
   rw [rbits_cons,rbits_cons] at h
   obtain ⟨h1,h2⟩:=List.append_inj h (by simp)
   have hx:=ha x (by simp)
   have hy:=hb y (by simp)
   have hn:num (bitsOf x 8)=num (bitsOf y 8):=by rw [h1]
   rw [num_bitsOf,num_bitsOf] at hn
   rw [show x=y from by omega,ih b (fun n hn=>ha n (by simp [hn])) (fun n hn=>hb n (by simp [hn])) h2]
theorem wE (bs:List Nat) (hb:∀n∈bs,n<256) (a:Nat) (ha:a≤8*bs.length) (h8:8*bs.length-a<8) (hz:num ((rbits bs).drop a)=0):packed ((rbits bs).take a)=bs:=by
 apply qFX _ _ (zU _) hb
 rw [rbits_packed]
 have hl:((rbits bs).take a).length=a:=by simp;omega
 have hd:(rbits bs).drop a=List.replicate (8*((a+7)/8)-a) false:=by
  apply num_inj
  ·simp;omega
  ·rw [hz,fE]
 rw [hl,←hd,List.take_append_drop]
end Go.Proofs.YtkpmalfigmimaaaGreatDoor
namespace Go.Proofs.YtkpmalfigmimaaaGreatDoor
open Go.RowKit
theorem qA {p:Prop} (h:p):Hid p:=h
def SJ (P:Program) (c:Code) (Q:Exit→Act→World→Prop):Nat→Exit→Act→World→Prop
 |0,.goto _,_,_=>False
 |n+1,.goto l,a,w=>∃rest,findLabel c l=some rest∧rest.wp P (SJ P c Q n) a w
 |_,.normal,a,w=>Q .normal a w
 |_,.exit id,a,w=>Q (.exit id) a w
 |_,.ret,a,w=>Q .ret a w
 |_,.panic ch,a,w=>Q (.panic ch) a w
 |_,.outgrown,a,w=>Q .outgrown a w
theorem kH {P:Program} {a:Act} {w:World} {Q:Exit→Act→World→Prop} {c:Code} (n:Nat) (h:c.wp P (SJ P c Q n) a w):(Code.scope c).wp P Q a w:=by
 intro b k cs
 have key:∀n (rest:Code) a w,rest.wp P (SJ P c Q n) a w→∃e a' w',Q e a' w'∧Arrives P (lone (b.at a (.code rest:: .inScope c::k)) cs w) b k cs e a' w':=by
  intro n
  induction n with
  |zero=>
   intro rest a w hr
   obtain ⟨e,a₁,w₁,hq,harr⟩:=hr b (.inScope c::k) cs
   cases e with
   |normal=>exact ⟨.normal,a₁,w₁,hq,Steps.trans harr (.one step_inScope)⟩
   |exit id=>exact ⟨.exit id,a₁,w₁,hq,fun k' hk=>harr k' (by simp [exitTo,hk])⟩
   |goto l'=>exact hq.elim
   |ret=>exact ⟨_,a₁,w₁,hq,harr⟩
   |panic ch=>exact ⟨_,a₁,w₁,hq,harr⟩
   |outgrown=>exact ⟨_,a₁,w₁,hq,harr⟩
  |succ n ih=>
   intro rest a w hr
   obtain ⟨e,a₁,w₁,hq,harr⟩:=hr b (.inScope c::k) cs
   cases e with
   |normal=>exact ⟨.normal,a₁,w₁,hq,Steps.trans harr (.one step_inScope)⟩
   |exit id=>exact ⟨.exit id,a₁,w₁,hq,fun k' hk=>harr k' (by simp [exitTo,hk])⟩
   |goto l'=>
    obtain ⟨r,hf,hr2⟩:=hq
    have hg:gotoIn l' (.inScope c::k)=some (.code r:: .inScope c::k):=by simp [gotoIn,hf]
    obtain ⟨e₂,a₂,w₂,hq₂,harr₂⟩:=ih r a₁ w₁ hr2
    exact ⟨e₂,a₂,w₂,hq₂,.of_steps (harr _ hg) harr₂⟩
   |ret=>exact ⟨_,a₁,w₁,hq,harr⟩
   |panic ch=>exact ⟨_,a₁,w₁,hq,harr⟩
   |outgrown=>exact ⟨_,a₁,w₁,hq,harr⟩
 obtain ⟨e,a₁,w₁,hq,harr⟩:=key n c a w h
 exact ⟨e,a₁,w₁,hq,.of_steps (.one step_scope) harr⟩
theorem kI {P:Program} {c rest:Code} {Q:Exit→Act→World→Prop} (n:Nat) {l:Nat} {a:Act} {w:World} (hf:findLabel c l=some (.seq .skip rest)) (h:rest.wp P (SJ P c Q n) a w):SJ P c Q (n+1) (.goto l) a w:=
 ⟨_,hf,wp_seq (wp_skip h)⟩
theorem vN {P:Program} {c:Code} {Q:Exit→Act→World→Prop} {n:Nat} {a:Act} {w:World} (h:Q .ret a w):SJ P c Q n .ret a w:=by cases n<;>exact h
theorem qEH {P:Program} {c:Code} {Q:Exit→Act→World→Prop} {n:Nat} {a:Act} {w:World} (h:Q .normal a w):SJ P c Q n .normal a w:=by cases n<;>exact h
end Go.Proofs.YtkpmalfigmimaaaGreatDoor
