/- For every tree: the law FnExactPairsIn returns true and all reads behind the call as it read before, the flaws' variables as well. Conditions: the listed package-level variables hold at the start what the program's text lays (the card ties them). -/
import Derived.Test.YtlmhcifnikdliaaDoorB34
import Derived.Test.YtlmhcifnikdliaaDoorB35
import Derived.Test.YtlmhcifnikdliaaDoorTie
import Derived.Test.YtlmhcifnikdliaaDoorCards
import Derived.Lib.SmallJoins
import Derived.Carry
import Derived.SevenTiedAt
namespace Go.Proofs.YtlmhcifnikdliaaDoor
open Go.ChangeShapes Go.WideShapes Go.ChangeAt Go.RowKit Go.Joins

set_option maxRecDepth 100000 in
theorem exactPairsIn_lifted (os : Os) (started : os.Started) (H : Type) (enc : TypeId × Value → H) :
    ReturnsInHanded {} Tryd.checked os 4 .any (fun w args => (Rows.fnExactPairsInSpec.pre enc Tryd.prog Tryd.f4 [] false w args ∧ laidMetH Tryd.prog Rows.fnExactPairsInRow.laid w) ∧ sizedMet enc Tryd.prog Tryd.f4 (OpenSpec.ofChange Rows.fnExactPairsInSpec) false w args)
      (Rows.fnExactPairsInSpec.post enc Tryd.prog Tryd.f4 false true false false) := by
  refine returnsInHanded_of_change_and (C := Tryd.checked) (X := fun w _ => laidMetH Tryd.prog Rows.fnExactPairsInRow.laid w) (fun _ _ _ hh h => h.of_heap hh) own started (by kernel_rfl) Tryd.func4
    (ChangeSpec.witness_at (enc := enc) (C := Tryd.checked) (os := os) (X := fun w _ => laidMetH Tryd.prog Rows.fnExactPairsInRow.laid w) false (laidWorld7 os) #[.agg #[.int .i64 0, .slice none 0 0]] 8 rfl (by kernel_rfl) (by kernel_rfl) (by kernel_rfl) (by kernel_rfl) (by kernel_rfl) (laid7_met os _)) ?_
  intro W base args ds gs before hval0 hW hcnd _ hL _
  have hval : ∀ (j : Nat) t v, Tryd.f4.params[j]? = some t → args[j]? = some v → Value.okWide Tryd.prog W .any base t v := hval0
  have hW' := hW
  obtain ⟨p, q, hA0, hV0, rfl, hfz, hnd⟩ := hW
  have hA : DataW.TrodAll enc Tryd.prog W 0 (fun _ => true) true Tryd.f4.params.toList args.toList ds p := hA0
  have hV : DataW.TrodVars enc Tryd.prog W (fun _ => true) [nU, nT] gs q := hV0
  rw [Tryd.params4] at hA hval
  obtain ⟨v0, d0, rfl, rfl, h0⟩ := trodAll_one hA
  have hL' : laidMet Tryd.prog [(nU, Rows.laid_loop_example_g00796_impl_errUnsound), (nT, Rows.laid_loop_example_g00796_impl_errUntold)] W := hL
  obtain ⟨a0, a1, gl, hv0, hv1⟩ := Gl.of_laid hL'
  obtain ⟨rfl, rfl⟩ := hV.unique (varsUT enc hv0 hv1 _)
  have k0 := h0
  have lt0 : ∀ x ∈ p, x.block < W.heap.size := by obtain ⟨m, hm⟩ := k0; exact DataW.trod_lt m _ _ _ hm
  obtain ⟨r0, xs0, A0, n0, c0, rfl, hR0, hn0, hc0, hp0⟩ := Tr_of_trod (hval 0 24 v0 rfl rfl) h0
  clear hA0 hval0 hV0
  refine (lawPairsIn_walk r0 xs0 A0 n0 c0 (pairsT r0 xs0) W hR0 (Nat.le_trans hn0 hc0) hp0 (fun A c w hs _ _ h => sPairsIn_any r0 xs0 A n0 c w h hs) (fun W' => Gl a0 a1 W') (fun W' hb => gl.on hb) (fun A c w hgp hs hc hc2 h => iPairsIn_any r0 xs0 A n0 c a0 a1 w h hs hc hc2 hgp) (pairsT_sm r0 xs0)).mono fun e W' ⟨he, bel⟩ => ?_
  subst he
  exact ⟨_, rfl, _, _, _, [], _, [.cell 0 0, .cell 1 0], hW', trodAll_mk1 (shut_bool Tryd.underlying4 _), trodAll_mk1 (Below.trod laidOut (by kernel_rfl) (of_decide_eq_true (by kernel_rfl)) k0 bel lt0), varsUT enc (var_on hv0 bel) (var_on hv1 bel) _, bel.frame _, fun h => by cases h⟩

theorem exactPairsIn_holds : Rows.FnExactPairsInSaid :=
  OpenClaim.holds_of_wide 4 Tryd.f4 rfl rfl rfl rfl rfl rfl rfl ⟨rfl, rfl, rfl, rfl, rfl⟩ rfl rfl rfl rfl rfl (by kernel_rfl) Tryd.func4 (by kernel_rfl)
    (of_decide_eq_true (by kernel_rfl)) (by unfold Func.isWrapper; first | (rw [if_pos (by decide +kernel)]; kernel_rfl) | (rw [if_neg (by decide +kernel)]; exact ⟨rfl, rfl⟩))
    (fun os started H enc _ => exactPairsIn_lifted os started H enc)

theorem exactPairsIn_card : Rows.FnExactPairsInCardSaid :=
  Claim7.holds_tied_plain_at .later [] [.sentinel, .sentinel] true Rows.fnExactPairsInCard.stood.harness true
    exactPairsIn_holds (fun _ h => by cases h) (by kernel_rfl) (fun _ h => by cases h) fnExactPairsIn_row_tie rfl ⟨rfl, rfl⟩ (by kernel_rfl) rfl
    (fun f fn hf hfn => by
      obtain rfl : f = 4 := Option.some.inj ((show Tryd.prog.funcNamed "loop.example/g00796/laws.FnExactPairsIn" = some 4 by kernel_rfl).symm.trans hf) |>.symm
      obtain rfl : fn = Tryd.f4 := (Option.some.inj (Tryd.func4.symm.trans hfn)).symm
      exact ⟨by kernel_rfl, fun j t ht => by
        rw [Tryd.params4] at ht
        have h3 : t = 24 := by
          rcases j with _ | j
          · simpa using ht.symm
          · simp at ht
        subst h3
        exact (show Tryd.prog.wantsStandIn 24 = false by kernel_rfl)⟩)
    (by kernel_rfl)
#print axioms exactPairsIn_card
end Go.Proofs.YtlmhcifnikdliaaDoor
