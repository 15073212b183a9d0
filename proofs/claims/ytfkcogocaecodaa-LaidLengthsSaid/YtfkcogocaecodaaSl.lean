/- Small and large. -/
import Derived.Test.YtfkcogocaecodaaZ7
import Derived.Deep.CutBlock
namespace Go.Proofs.Ytfkcogocaecodaa
open Go.ChangeShapes Go.WideShapes Go.ChangeAt Go.RowKit
set_option linter.unusedVariables false
set_option linter.unusedSimpArgs false

theorem short_49 (b : Bar) (w : World) : Calls Try.prog 49 #[b.val] w fun e w' => (∃ o, e = .returned (.bool o)) ∧ Below w.heap.size w w' := by
  rw [vcs]
  generalize b.mark = mk at *
  generalize b.ds.length = dl at *
  generalize b.size = bs at *
  generalize b.count = bct at *
  generalize b.code = cd at *
  generalize b.p = dp at *
  generalize b.cap = dc at *
  have E := (Env.nil w).add w.heap.size 49 #[.string mk, .int .i64 bs, .int .i64 bct, .int .i64 cd, .slice dp dl dc] rfl
  have C := E.cells
  simp [BC, CF] at C
  cases g1 : decide ((dl : Int) ≤ 8)
  all_goals
    go_enter Try.func49, Try.ntmps49
    go_wp2
    go_ret
    exact ⟨⟨_, rfl⟩, envb E⟩
set_option maxHeartbeats 8000000 in
set_option maxRecDepth 100000 in
theorem Small_25 (p : Option Addr) (l : List Bar) (cap : Nat) (q : Option Addr) (rs : List Rn) (capr : Nat) (n m : Int) (w : World) (hS : Slb w p l cap) (hR : Slr w q rs capr) :
    Calls Try.prog 25 #[.slice p l.length cap, .slice q rs.length capr, .int .i64 n, .int .i64 m] w fun e w' => (∃ o, e = .returned (.bool o)) ∧ Below w.heap.size w w' := by
  have HL : Hid (l.length ≤ maxLen) := Lib.hid hS.mx
  have HR : Hid (rs.length ≤ maxLen) := Lib.hid hR.mx
  unfold maxLen at HL HR
  cases g1 : decide ((l.length : Int) > n)
  · cases g3 : decide ((l.length : Int) > 63)
    · cases g4 : decide ((rs.length : Int) > n)
      · cases g6 : decide ((rs.length : Int) > 63)
        · go_enter Try.func25, Try.ntmps25
          go_upto_region 4 with fail
          go_loopw [9] (fun v wr => ∃ k : Nat, v = .int .i64 k ∧ k ≤ l.length ∧ Below w.heap.size w wr) (fun v _ => l.length - (intOf v).toNat)
          case atStart => exact ⟨0, rfl, Nat.zero_le _, Below.refl _ _⟩
          case round =>
            obtain ⟨k, rfl, hk, hB⟩ := hrel
            by_cases hlt : k < l.length
            · have g1 : decide ((k : Int) < (l.length : Int)) = true := by simp [hlt]
              have W1 : IntKind.i64.wrap ((k : Int) + 1) = ((k + 1 : Nat) : Int) := by rw [IntWalk.i64_in _ (by have := HL.out; omega)]; omega
              obtain ⟨a, rfl, c0, c1, c2, c3, c4⟩ := (hS.on hB).at_ k hlt
              have h49 := fun W => short_49 l[k] W
              rw [vcs] at h49
              generalize l[k].mark = mk at *
              generalize l[k].size = bs at *
              generalize l[k].count = bct at *
              generalize l[k].code = cd at *
              generalize l[k].ds.length = dl at *
              generalize l[k].cap = dc at *
              generalize l[k].p = dp at *
              go_wp2_with (go_at_call 49; (with_reducible refine (h49 _).mono ?_); rintro X w1 ⟨⟨o, rfl⟩, hb1⟩; refine StopI.out ?_)
              cases o
              · refine StopI.mk ?_
                go_wp2
                go_ret
                exact ⟨⟨_, rfl⟩, belows hB hb1⟩
              · refine StopI.mk ?_
                go_wp2
                exact ⟨⟨k + 1, rfl, hlt, belows hB hb1⟩, by simp [intOf]; omega⟩
            · have g1 : decide ((k : Int) < (l.length : Int)) = false := by simp; omega
              go_wp2
              go_loopw [10, 11] (fun v10 v wr => ∃ (k : Nat) (z : Int), v = .int .i64 k ∧ v10 = .int .i64 z ∧ k ≤ rs.length ∧ Below w.heap.size w wr) (fun _ v _ => rs.length - (intOf v).toNat)
              case atStart => exact ⟨0, 0, rfl, rfl, Nat.zero_le _, hB⟩
              case round =>
                obtain ⟨k, z, rfl, rfl, hk, hB⟩ := hrel
                by_cases hlt : k < rs.length
                · have g1 : decide ((k : Int) < (rs.length : Int)) = true := by simp [hlt]
                  have W1 : IntKind.i64.wrap ((k : Int) + 1) = ((k + 1 : Nat) : Int) := by rw [IntWalk.i64_in _ (by have := HR.out; omega)]; omega
                  obtain ⟨a, rfl, h0, h1, h2, h3, h4, h5, h6, h7, h8, h9⟩ := (hR.on hB).at_ k hlt
                  generalize rs[k].mark = mk at *
                  generalize rs[k].ct = ct at *
                  cases gm : decide ((mk.size : Int) > 60)
                  · cases c1 : decide (ct > m) <;> cases c2 : decide (ct ≤ 2000) <;> cases c3 : decide (ct > 0) <;> cases c4 : decide (ct ≤ m)
                    all_goals
                      go_wp2
                      first
                        | (exact ⟨⟨k + 1, _, rfl, rfl, hlt, hB⟩, by simp [intOf]; omega⟩)
                        | (go_ret; exact ⟨⟨_, rfl⟩, hB⟩)
                  · go_wp2
                    go_ret
                    exact ⟨⟨_, rfl⟩, hB⟩
                · have g1 : decide ((k : Int) < (rs.length : Int)) = false := by simp; omega
                  cases gz : decide (z ≤ m)
                  all_goals
                    go_wp2
                    go_ret
                    exact ⟨⟨_, rfl⟩, hB⟩
        · go_enter Try.func25, Try.ntmps25
          go_wp2
          go_ret
          exact ⟨⟨_, rfl⟩, Below.refl _ _⟩
      · cases g5 : decide ((rs.length : Int) ≤ 60)
        · cases g6 : decide ((rs.length : Int) > 63)
          · go_enter Try.func25, Try.ntmps25
            go_upto_region 4 with fail
            go_loopw [9] (fun v wr => ∃ k : Nat, v = .int .i64 k ∧ k ≤ l.length ∧ Below w.heap.size w wr) (fun v _ => l.length - (intOf v).toNat)
            case atStart => exact ⟨0, rfl, Nat.zero_le _, Below.refl _ _⟩
            case round =>
              obtain ⟨k, rfl, hk, hB⟩ := hrel
              by_cases hlt : k < l.length
              · have g1 : decide ((k : Int) < (l.length : Int)) = true := by simp [hlt]
                have W1 : IntKind.i64.wrap ((k : Int) + 1) = ((k + 1 : Nat) : Int) := by rw [IntWalk.i64_in _ (by have := HL.out; omega)]; omega
                obtain ⟨a, rfl, c0, c1, c2, c3, c4⟩ := (hS.on hB).at_ k hlt
                have h49 := fun W => short_49 l[k] W
                rw [vcs] at h49
                generalize l[k].mark = mk at *
                generalize l[k].size = bs at *
                generalize l[k].count = bct at *
                generalize l[k].code = cd at *
                generalize l[k].ds.length = dl at *
                generalize l[k].cap = dc at *
                generalize l[k].p = dp at *
                go_wp2_with (go_at_call 49; (with_reducible refine (h49 _).mono ?_); rintro X w1 ⟨⟨o, rfl⟩, hb1⟩; refine StopI.out ?_)
                cases o
                · refine StopI.mk ?_
                  go_wp2
                  go_ret
                  exact ⟨⟨_, rfl⟩, belows hB hb1⟩
                · refine StopI.mk ?_
                  go_wp2
                  exact ⟨⟨k + 1, rfl, hlt, belows hB hb1⟩, by simp [intOf]; omega⟩
              · have g1 : decide ((k : Int) < (l.length : Int)) = false := by simp; omega
                go_wp2
                go_loopw [10, 11] (fun v10 v wr => ∃ (k : Nat) (z : Int), v = .int .i64 k ∧ v10 = .int .i64 z ∧ k ≤ rs.length ∧ Below w.heap.size w wr) (fun _ v _ => rs.length - (intOf v).toNat)
                case atStart => exact ⟨0, 0, rfl, rfl, Nat.zero_le _, hB⟩
                case round =>
                  obtain ⟨k, z, rfl, rfl, hk, hB⟩ := hrel
                  by_cases hlt : k < rs.length
                  · have g1 : decide ((k : Int) < (rs.length : Int)) = true := by simp [hlt]
                    have W1 : IntKind.i64.wrap ((k : Int) + 1) = ((k + 1 : Nat) : Int) := by rw [IntWalk.i64_in _ (by have := HR.out; omega)]; omega
                    obtain ⟨a, rfl, h0, h1, h2, h3, h4, h5, h6, h7, h8, h9⟩ := (hR.on hB).at_ k hlt
                    generalize rs[k].mark = mk at *
                    generalize rs[k].ct = ct at *
                    cases gm : decide ((mk.size : Int) > 60)
                    · cases c1 : decide (ct > m) <;> cases c2 : decide (ct ≤ 2000) <;> cases c3 : decide (ct > 0) <;> cases c4 : decide (ct ≤ m)
                      all_goals
                        go_wp2
                        first
                          | (exact ⟨⟨k + 1, _, rfl, rfl, hlt, hB⟩, by simp [intOf]; omega⟩)
                          | (go_ret; exact ⟨⟨_, rfl⟩, hB⟩)
                    · go_wp2
                      go_ret
                      exact ⟨⟨_, rfl⟩, hB⟩
                  · have g1 : decide ((k : Int) < (rs.length : Int)) = false := by simp; omega
                    cases gz : decide (z ≤ m)
                    all_goals
                      go_wp2
                      go_ret
                      exact ⟨⟨_, rfl⟩, hB⟩
          · go_enter Try.func25, Try.ntmps25
            go_wp2
            go_ret
            exact ⟨⟨_, rfl⟩, Below.refl _ _⟩
        · go_enter Try.func25, Try.ntmps25
          go_wp2
          go_ret
          exact ⟨⟨_, rfl⟩, Below.refl _ _⟩
    · go_enter Try.func25, Try.ntmps25
      go_wp2
      go_ret
      exact ⟨⟨_, rfl⟩, Below.refl _ _⟩
  · cases g2 : decide ((l.length : Int) ≤ 60)
    · cases g3 : decide ((l.length : Int) > 63)
      · cases g4 : decide ((rs.length : Int) > n)
        · cases g6 : decide ((rs.length : Int) > 63)
          · go_enter Try.func25, Try.ntmps25
            go_upto_region 4 with fail
            go_loopw [9] (fun v wr => ∃ k : Nat, v = .int .i64 k ∧ k ≤ l.length ∧ Below w.heap.size w wr) (fun v _ => l.length - (intOf v).toNat)
            case atStart => exact ⟨0, rfl, Nat.zero_le _, Below.refl _ _⟩
            case round =>
              obtain ⟨k, rfl, hk, hB⟩ := hrel
              by_cases hlt : k < l.length
              · have g1 : decide ((k : Int) < (l.length : Int)) = true := by simp [hlt]
                have W1 : IntKind.i64.wrap ((k : Int) + 1) = ((k + 1 : Nat) : Int) := by rw [IntWalk.i64_in _ (by have := HL.out; omega)]; omega
                obtain ⟨a, rfl, c0, c1, c2, c3, c4⟩ := (hS.on hB).at_ k hlt
                have h49 := fun W => short_49 l[k] W
                rw [vcs] at h49
                generalize l[k].mark = mk at *
                generalize l[k].size = bs at *
                generalize l[k].count = bct at *
                generalize l[k].code = cd at *
                generalize l[k].ds.length = dl at *
                generalize l[k].cap = dc at *
                generalize l[k].p = dp at *
                go_wp2_with (go_at_call 49; (with_reducible refine (h49 _).mono ?_); rintro X w1 ⟨⟨o, rfl⟩, hb1⟩; refine StopI.out ?_)
                cases o
                · refine StopI.mk ?_
                  go_wp2
                  go_ret
                  exact ⟨⟨_, rfl⟩, belows hB hb1⟩
                · refine StopI.mk ?_
                  go_wp2
                  exact ⟨⟨k + 1, rfl, hlt, belows hB hb1⟩, by simp [intOf]; omega⟩
              · have g1 : decide ((k : Int) < (l.length : Int)) = false := by simp; omega
                go_wp2
                go_loopw [10, 11] (fun v10 v wr => ∃ (k : Nat) (z : Int), v = .int .i64 k ∧ v10 = .int .i64 z ∧ k ≤ rs.length ∧ Below w.heap.size w wr) (fun _ v _ => rs.length - (intOf v).toNat)
                case atStart => exact ⟨0, 0, rfl, rfl, Nat.zero_le _, hB⟩
                case round =>
                  obtain ⟨k, z, rfl, rfl, hk, hB⟩ := hrel
                  by_cases hlt : k < rs.length
                  · have g1 : decide ((k : Int) < (rs.length : Int)) = true := by simp [hlt]
                    have W1 : IntKind.i64.wrap ((k : Int) + 1) = ((k + 1 : Nat) : Int) := by rw [IntWalk.i64_in _ (by have := HR.out; omega)]; omega
                    obtain ⟨a, rfl, h0, h1, h2, h3, h4, h5, h6, h7, h8, h9⟩ := (hR.on hB).at_ k hlt
                    generalize rs[k].mark = mk at *
                    generalize rs[k].ct = ct at *
                    cases gm : decide ((mk.size : Int) > 60)
                    · cases c1 : decide (ct > m) <;> cases c2 : decide (ct ≤ 2000) <;> cases c3 : decide (ct > 0) <;> cases c4 : decide (ct ≤ m)
                      all_goals
                        go_wp2
                        first
                          | (exact ⟨⟨k + 1, _, rfl, rfl, hlt, hB⟩, by simp [intOf]; omega⟩)
                          | (go_ret; exact ⟨⟨_, rfl⟩, hB⟩)
                    · go_wp2
                      go_ret
                      exact ⟨⟨_, rfl⟩, hB⟩
                  · have g1 : decide ((k : Int) < (rs.length : Int)) = false := by simp; omega
                    cases gz : decide (z ≤ m)
                    all_goals
                      go_wp2
                      go_ret
                      exact ⟨⟨_, rfl⟩, hB⟩
          · go_enter Try.func25, Try.ntmps25
            go_wp2
            go_ret
            exact ⟨⟨_, rfl⟩, Below.refl _ _⟩
        · cases g5 : decide ((rs.length : Int) ≤ 60)
          · cases g6 : decide ((rs.length : Int) > 63)
            · go_enter Try.func25, Try.ntmps25
              go_upto_region 4 with fail
              go_loopw [9] (fun v wr => ∃ k : Nat, v = .int .i64 k ∧ k ≤ l.length ∧ Below w.heap.size w wr) (fun v _ => l.length - (intOf v).toNat)
              case atStart => exact ⟨0, rfl, Nat.zero_le _, Below.refl _ _⟩
              case round =>
                obtain ⟨k, rfl, hk, hB⟩ := hrel
                by_cases hlt : k < l.length
                · have g1 : decide ((k : Int) < (l.length : Int)) = true := by simp [hlt]
                  have W1 : IntKind.i64.wrap ((k : Int) + 1) = ((k + 1 : Nat) : Int) := by rw [IntWalk.i64_in _ (by have := HL.out; omega)]; omega
                  obtain ⟨a, rfl, c0, c1, c2, c3, c4⟩ := (hS.on hB).at_ k hlt
                  have h49 := fun W => short_49 l[k] W
                  rw [vcs] at h49
                  generalize l[k].mark = mk at *
                  generalize l[k].size = bs at *
                  generalize l[k].count = bct at *
                  generalize l[k].code = cd at *
                  generalize l[k].ds.length = dl at *
                  generalize l[k].cap = dc at *
                  generalize l[k].p = dp at *
                  go_wp2_with (go_at_call 49; (with_reducible refine (h49 _).mono ?_); rintro X w1 ⟨⟨o, rfl⟩, hb1⟩; refine StopI.out ?_)
                  cases o
                  · refine StopI.mk ?_
                    go_wp2
                    go_ret
                    exact ⟨⟨_, rfl⟩, belows hB hb1⟩
                  · refine StopI.mk ?_
                    go_wp2
                    exact ⟨⟨k + 1, rfl, hlt, belows hB hb1⟩, by simp [intOf]; omega⟩
                · have g1 : decide ((k : Int) < (l.length : Int)) = false := by simp; omega
                  go_wp2
                  go_loopw [10, 11] (fun v10 v wr => ∃ (k : Nat) (z : Int), v = .int .i64 k ∧ v10 = .int .i64 z ∧ k ≤ rs.length ∧ Below w.heap.size w wr) (fun _ v _ => rs.length - (intOf v).toNat)
                  case atStart => exact ⟨0, 0, rfl, rfl, Nat.zero_le _, hB⟩
                  case round =>
                    obtain ⟨k, z, rfl, rfl, hk, hB⟩ := hrel
                    by_cases hlt : k < rs.length
                    · have g1 : decide ((k : Int) < (rs.length : Int)) = true := by simp [hlt]
                      have W1 : IntKind.i64.wrap ((k : Int) + 1) = ((k + 1 : Nat) : Int) := by rw [IntWalk.i64_in _ (by have := HR.out; omega)]; omega
                      obtain ⟨a, rfl, h0, h1, h2, h3, h4, h5, h6, h7, h8, h9⟩ := (hR.on hB).at_ k hlt
                      generalize rs[k].mark = mk at *
                      generalize rs[k].ct = ct at *
                      cases gm : decide ((mk.size : Int) > 60)
                      · cases c1 : decide (ct > m) <;> cases c2 : decide (ct ≤ 2000) <;> cases c3 : decide (ct > 0) <;> cases c4 : decide (ct ≤ m)
                        all_goals
                          go_wp2
                          first
                            | (exact ⟨⟨k + 1, _, rfl, rfl, hlt, hB⟩, by simp [intOf]; omega⟩)
                            | (go_ret; exact ⟨⟨_, rfl⟩, hB⟩)
                      · go_wp2
                        go_ret
                        exact ⟨⟨_, rfl⟩, hB⟩
                    · have g1 : decide ((k : Int) < (rs.length : Int)) = false := by simp; omega
                      cases gz : decide (z ≤ m)
                      all_goals
                        go_wp2
                        go_ret
                        exact ⟨⟨_, rfl⟩, hB⟩
            · go_enter Try.func25, Try.ntmps25
              go_wp2
              go_ret
              exact ⟨⟨_, rfl⟩, Below.refl _ _⟩
          · go_enter Try.func25, Try.ntmps25
            go_wp2
            go_ret
            exact ⟨⟨_, rfl⟩, Below.refl _ _⟩
      · go_enter Try.func25, Try.ntmps25
        go_wp2
        go_ret
        exact ⟨⟨_, rfl⟩, Below.refl _ _⟩
    · go_enter Try.func25, Try.ntmps25
      go_wp2
      go_ret
      exact ⟨⟨_, rfl⟩, Below.refl _ _⟩
end Go.Proofs.Ytfkcogocaecodaa
