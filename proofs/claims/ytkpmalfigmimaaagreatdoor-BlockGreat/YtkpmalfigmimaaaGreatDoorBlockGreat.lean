/-
  PROVED HERE: the tied card of fathomlaw9.BlockGreat: it takes nothing and returns true, where math/bits' table and block's own lie as the program's text lays them (the card ties both); no condition beside the row's own.
  (The frame round the walk is after the kit's proof-skeleton.mjs and its worked cards; the walk is mine.)
-/
import Derived.Test.YtkpmalfigmimaaaGreatDoorCards
import Derived.Test.YtkpmalfigmimaaaGreatDoorTie
import Derived.Test.YtkpmalfigmimaaaGreatDoorFF
import Derived.Test.YtkpmalfigmimaaaGreatDoorD3F
import Derived.WalkKit
import Derived.ProofKit
import Derived.OpenShut
import Derived.ShutString
import Derived.ChangeOld
import Derived.Below
import Derived.SevenTiedAt
set_option linter.unusedVariables false
set_option linter.unusedSimpArgs false
set_option maxRecDepth 100000
set_option maxHeartbeats 8000000
namespace Go.Proofs.YtkpmalfigmimaaaGreatDoor.blockGreat
open Go.ChangeShapes Go.WideShapes Go.ChangeAt Go.RowKit
theorem own:ownKnob Tryz.prog.godebug=none:=by kernel_rfl
theorem lifted (os:Os) (started:os.Started) (H:Type) (enc:TypeId×Value→H):
  ReturnsInHanded {} Tryz.checked os 5 .any (fun w args=>(Rows.blockGreatSpec.pre enc Tryz.prog Tryz.f5 [] false w args∧laidMetH Tryz.prog nU w)∧sizedMet enc Tryz.prog Tryz.f5 (OpenSpec.ofChange Rows.blockGreatSpec) false w args)
   (Rows.blockGreatSpec.post enc Tryz.prog Tryz.f5 false true false false):=by
 refine returnsInHanded_of_change_and (C:=Tryz.checked) (X:=fun w _=>laidMetH Tryz.prog nU w) (fun _ _ _ hh h=>h.of_heap hh) own started (by kernel_rfl) Tryz.func5
  (ChangeSpec.witness_shaped (enc:=enc) (C:=Tryz.checked) (os:=os) (X:=fun w _=>laidMetH Tryz.prog nU w) false (World.laidAll Tryz.prog os nU) #[] 8 (World.laidAll_os _ _ _)
   (World.shaped_of_ZipB (by kernel_rfl) (by kernel_rfl)) (by kernel_rfl) (by kernel_rfl) (by kernel_rfl)
   (by rw [MakeChecks.laidMetH_plain _ _ _ (by kernel_rfl)];exact laidMet_laidAll _ (by kernel_rfl) (by kernel_rfl))) ?_
 intro W base args ds gs before hval0 hW _ hsz0 hL _
 have hsz:(DataW.weightsEach Tryz.prog (Tryz.f5.params.toList++Rows.blockGreatSpec.plain.varTypes Tryz.prog) (ds++gs)).all (· ≤reachBytes)=true:=hsz0
 have hval:∀(j:Nat) t v,Tryz.f5.params[j]?=some t→args[j]?=some v→Value.okWide Tryz.prog W .any base t v:=hval0
 have hW':=hW
 obtain ⟨p,q,hA0,hV,rfl,hfz,hnd⟩:=hW
 have hA:DataW.TrodAll enc Tryz.prog W 0 (fun _=>true) true Tryz.f5.params.toList args.toList ds p:=hA0
 rw [Tryz.params5] at hA hval hsz
 obtain ⟨rfl,rfl,rfl⟩:=trodAll_none hA
 obtain ⟨rfl,rfl⟩:=trodVars_none hV
 clear hA0 hval0 hsz0
 refine (bP W (pU hL).1 (pU hL).2).mono fun e W' ⟨he,bel⟩=>?_
 subst he
 exact ⟨_,rfl,_,_,_,[],_,[],hW',trodAll_mk1 (shut_bool Tryz.underlying4 _),trodAll_mk0,rfl,bel.frame _,fun h=>by cases h⟩
theorem over:Rows.blockGreatRow.holds Tryz.pinned (OpenSpec.ofChange Rows.blockGreatSpec):=
 OpenClaim.holds_of_wide 5 Tryz.f5 rfl rfl rfl rfl rfl rfl rfl ⟨rfl,rfl,rfl,rfl,rfl⟩ rfl rfl rfl rfl rfl (by kernel_rfl) Tryz.func5 (by kernel_rfl)
  (of_decide_eq_true (by kernel_rfl)) (by unfold Func.isWrapper;first|(rw [if_pos (by decide +kernel)];kernel_rfl)|(rw [if_neg (by decide +kernel)];exact ⟨rfl,rfl⟩))
  (fun os started H enc _=>lifted os started H enc)
theorem card:Rows.BlockGreatCardSaid:=
 Claim7.holds_tied_plain_at .later [] [.data, .data] true (true, "bfc29c97813d89fc939518a3e4391c90fb2834e2ca61d049f3b047d5efea8504") false
  over (fun _ h=>by cases h) (by kernel_rfl) (fun _ h=>by cases h) blockGreat_row_tie rfl ⟨rfl,rfl⟩ (by kernel_rfl) rfl
  (fun f fn hf hfn=>by
   obtain rfl : f = 5 := Option.some.inj ((show Tryz.prog.funcNamed "fathom/fathomlaw9.BlockGreat" = some 5 by kernel_rfl).symm.trans hf) |>.symm
   obtain rfl:fn=Tryz.f5:=(Option.some.inj (Tryz.func5.symm.trans hfn)).symm
   exact ⟨by kernel_rfl,fun j t ht=>by
    rw [Tryz.params5] at ht
    simp at ht⟩)
  (by kernel_rfl)
end Go.Proofs.YtkpmalfigmimaaaGreatDoor.blockGreat
namespace Go.Proofs.YtkpmalfigmimaaaGreatDoor
theorem blockGreat_holds:Rows.BlockGreatCardSaid:=blockGreat.card
#print axioms blockGreat_holds
end Go.Proofs.YtkpmalfigmimaaaGreatDoor
