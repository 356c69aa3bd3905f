import Derived.Test.YtkpmalfigmimaaaGreatDoorP1B32
import Derived.Deep.RegionHeld3
import Derived.Laws.Tables
import Derived.Great.Walk
set_option linter.unusedVariables false
set_option linter.unusedSimpArgs false
set_option maxRecDepth 100000
set_option maxHeartbeats 8000000
namespace Go.Proofs.YtkpmalfigmimaaaGreatDoor
open Go.RowKit
open M
theorem kB (w:World):Calls Tryz.prog 178 #[] w fun e w'=>e= .returned (.int .i64 64)∧w'=w:=by
 have hx:bits BinOp.xor IntKind.u64 0 18446744073709551615=18446744073709551615:=by decide +kernel
 have HL:=qA (kZ 18446744073709551615 w (by omega))
 rw [show bitLen 18446744073709551615=64 from by decide +kernel] at HL
 go_enter Tryz.func178,Tryz.ntmps178
 go_wp2_with fail
 refine HL.out.mono ?_
 rintro e w1 ⟨rfl,rfl⟩
 go_wp2_with fail
 go_ret
 exact ⟨rfl,rfl⟩
theorem zF (w:World):Calls Tryz.prog 223 #[] w fun e w'=>e= .returned (.int .i64 6)∧w'=w:=by
 have HL:=qA (kZ 63 w (by omega))
 rw [show bitLen 63=6 from by decide +kernel] at HL
 go_enter Tryz.func223,Tryz.ntmps223
 go_wp2_with fail
 refine (kB w).mono ?_
 rintro e w1 ⟨rfl,rfl⟩
 go_wp2_with fail
 refine HL.out.mono ?_
 rintro e w1 ⟨rfl,rfl⟩
 go_wp2_with fail
 go_ret
 exact ⟨rfl,rfl⟩
def dY (L N:Nat):Value:= .agg #[.int .i64 (L:Int),.int .i64 (N:Int)]
theorem qB7 {o p:Option TypeDesc} (e:p=o) (h:(match o with|some (.struct _)=>true|_=>false)=true):∃fs,p=some (.struct fs):=by
 subst e
 cases p with
 |none=>simp at h
 |some d=>cases d<;>first|exact ⟨_,rfl⟩|simp at h
theorem cQ (x:Nat) (w:World) (hx:x<18446744073709551616) (h0:x≠0) (hT:qT w):Calls Tryz.prog 224 #[.int .u64 x] w fun e w'=>e= .returned (.agg #[.int .i64 ((64-bitLen x:Nat):Int),.int .i64 (wl x:Int)])∧Below w.heap.size w w':=by
 have hb:=bitLen_le x 64 hx
 have ht:=tz_lt x h0 (by omega)
 obtain ⟨B,hB⟩:∃B,B=bitLen x:=⟨_,rfl⟩
 obtain ⟨Z,hZ⟩:∃Z,Z=tz x:=⟨_,rfl⟩
 obtain ⟨L,hL⟩:∃L,L=64-bitLen x:=⟨_,rfl⟩
 obtain ⟨N,hN⟩:∃N,N=wl x:=⟨_,rfl⟩
 have q1:(64:Int)-(B:Int)=(L:Int):=by omega
 have q2:wl x=bitLen x-tz x:=rfl
 have q3:(64:Int)-(L:Int)=(B:Int):=by omega
 have q4:(B:Int)-(Z:Int)=(N:Int):=by omega
 have HL:Hid (∀w:World,Calls Tryz.prog 197 #[.int .u64 x] w fun e w'=>e= .returned (.int .i64 (B:Int))∧w'=w):=fun w=>by rw [hB];exact kZ x w (by omega)
 have HZ:Hid (∀w:World,qT w→Calls Tryz.prog 227 #[.int .u64 x] w fun e w'=>e= .returned (.int .i64 (Z:Int))∧w'=w):=fun w h=>by rw [hZ];exact qCN x w (by omega) h0 h
 rw [←hL,←hN]
 have r0:IntKind.u64.wrap (x:Int)=(x:Int):=by rw [IntKind.wrap_u64];omega
 have HT:Hid (qT (w.alloc (.cells #[.int .i64 0,.int .i64 0] 224))):=hT.below ((Below.refl _ w).alloc (Nat.le_refl _) _)
 have HX:=qA hx
 clear hB hZ hL hN q2 hT hx hb ht h0
 go_enter Tryz.func224,Tryz.ntmps224
 go_wp2_with fail
 refine (kB _).mono ?_
 rintro e w1 ⟨rfl,rfl⟩
 go_wp2_with fail
 refine (HL.out _).mono ?_
 rintro e w1 ⟨rfl,rfl⟩
 go_wp2_with fail
 refine (HZ.out _ HT.out).mono ?_
 rintro e w1 ⟨rfl,rfl⟩
 go_wp2_with fail
 refine (kB _).mono ?_
 rintro e w1 ⟨rfl,rfl⟩
 go_wp2_with fail
 obtain ⟨fs,hu⟩:=qB7 (show Tryz.prog.underlying 224=Tryz.prog.underlying 224 from rfl) (by kernel_rfl)
 first
  |(
    refine bodyPost_ret (results_cell_row rfl _ _ w.heap.size _ _ (0,0) (.struct fs) rfl (heap_alloc_new w _) hu rfl (by kernel_rfl)) rfl ?_
    exact ⟨rfl,((Below.refl _ w).alloc (Nat.le_refl _) _)⟩)
  |trace_state
theorem jY (L N s:Nat) (w:World) (h:L+N+s=64):Calls Tryz.prog 209 #[dY L N] w fun e w'=>e= .returned (.int .i64 (s:Int))∧Below w.heap.size w w':=by
 have q1:(64:Int)-(L:Int)=((N+s:Nat):Int):=by omega
 have q2:((N+s:Nat):Int)-(N:Int)=(s:Int):=by omega
 generalize N+s=Z at*
 unfold dY
 go_enter Tryz.func209,Tryz.ntmps209
 go_wp2_with fail
 go_quiet ((go_at_call 178;exact Calls.quiet_of_same (kB _)))
 go_wp2_with fail
 go_ret
 exact ⟨rfl,qN ((Below.refl _ w).alloc (Nat.le_refl _) _) _⟩
theorem rI (L N:Nat) (z:Int) (w:World) (hL:L≤64) (hN:N≤64) (h:z=(64:Int)-L-N):Calls Tryz.prog 209 #[dY L N] w fun e w'=>e= .returned (.int .i64 z)∧Below w.heap.size w w':=by
 obtain ⟨y,hy⟩:∃y:Int,y=(64:Int)-L:=⟨_,rfl⟩
 have q1:(64:Int)-(L:Int)=y:=by omega
 have q2:y-(N:Int)=z:=by omega
 have r1:wrap64 y=y:=by unfold wrap64;omega
 have r2:wrap64 z=z:=by unfold wrap64;omega
 have r3:IntKind.i64.wrap y=y:=by rw [IntKind.wrap_i64];omega
 have r4:IntKind.i64.wrap z=z:=by rw [IntKind.wrap_i64];omega
 have HH:=qA h
 have HY:=qA hy
 clear h hy
 unfold dY
 go_enter Tryz.func209,Tryz.ntmps209
 go_wp2_with fail
 go_quiet ((go_at_call 178;exact Calls.quiet_of_same (kB _)))
 go_wp2_with fail
 go_ret
 exact ⟨rfl,qN ((Below.refl _ w).alloc (Nat.le_refl _) _) _⟩
def vR (L N:Nat):Nat:=64-L-N
theorem zO (L N:Nat) (w:World) (h:L+N≤64):Calls Tryz.prog 209 #[.agg #[.int .i64 (L:Int),.int .i64 (N:Int)]] w fun e w'=>e= .returned (.int .i64 (vR L N:Int))∧Below w.heap.size w w':=jY L N _ w (by unfold vR;omega)
theorem kF (L N:Nat) (w:World) (h:L+N≤64):Calls Tryz.prog 208 #[dY L N] w fun e w'=>e= .returned (.bool (decide (0<N)))∧Below w.heap.size w w':=by
 by_cases h0:N=0
 ·subst h0
  unfold dY
  go_enter Tryz.func208,Tryz.ntmps208
  go_wp2_with fail
  go_ret
  exact ⟨rfl,((Below.refl _ w).alloc (Nat.le_refl _) _)⟩
 ·have hp:decide ((0:Int)<(N:Int))=true:=by simp;omega
  rw [show decide (0<N)=true from by simp;omega]
  have HB:Hid (∀w,Calls Tryz.prog 209 #[.agg #[.int .i64 (L:Int),.int .i64 (N:Int)]] w fun e w'=>e= .returned (.int .i64 ((64-L-N:Nat):Int))∧Below w.heap.size w w'):=fun w=>jY L N (64-L-N) w (by omega)
  generalize 64-L-N=s at*
  unfold dY
  go_enter Tryz.func208,Tryz.ntmps208
  go_wp2_with fail
  refine (HB.out _).mono ?_
  rintro e w1 ⟨rfl,hb⟩
  have hb2:Below w.heap.size w w1:=((Below.refl _ w).alloc (Nat.le_refl _) _).trans (hb.mono (by simp))
  clear hb
  go_wp2_with fail
  go_ret
  exact ⟨rfl,hb2⟩
theorem fZ (L N:Nat) (w:World) (hL:L≤64) (hN:N≤64) (h:64<L+N) (h0:0<N):Calls Tryz.prog 208 #[dY L N] w fun e w'=>e= .returned (.bool false)∧Below w.heap.size w w':=by
 have hp:decide ((0:Int)<(N:Int))=true:=by simp;omega
 obtain ⟨z,hz⟩:∃z:Int,z=(64:Int)-L-N:=⟨_,rfl⟩
 have hz0:decide ((0:Int)≤z)=false:=by simp;omega
 have HB:Hid (∀w,Calls Tryz.prog 209 #[.agg #[.int .i64 (L:Int),.int .i64 (N:Int)]] w fun e w'=>e= .returned (.int .i64 z)∧Below w.heap.size w w'):=fun w=>rI L N z w hL hN hz
 unfold dY
 have HZ:=qA hz
 have HH:=qA h
 clear hz h
 go_enter Tryz.func208,Tryz.ntmps208
 go_wp2_with fail
 refine (HB.out _).mono ?_
 rintro e w1 ⟨rfl,hb⟩
 have hb2:Below w.heap.size w w1:=((Below.refl _ w).alloc (Nat.le_refl _) _).trans (hb.mono (by simp))
 clear hb
 go_wp2_with fail
 go_ret
 exact ⟨rfl,hb2⟩
end Go.Proofs.YtkpmalfigmimaaaGreatDoor
