/- awake: the example. -/
import Derived.Test.YthdafpbmmfelpaaGreatDoorRt0
import Derived.Test.YthdafpbmmfelpaaGreatDoorMg
import Derived.Test.YthdafpbmmfelpaaGreatDoorPc
import Derived.Test.YthdafpbmmfelpaaGreatDoorRs
import Derived.Laws.StructEq
import Derived.Deep.QuietTactic
namespace Go.Proofs.YthdafpbmmfelpaaGreatDoor
open Go.ChangeShapes Go.WideShapes Go.ChangeAt Go.RowKit
set_option linter.unusedVariables false
set_option linter.unusedSimpArgs false

theorem ne49 (x y : S2) (W : World) : (binOp .neq 49 (.agg #[.int .i64 x.1, .int .i64 x.2]) (.agg #[.int .i64 y.1, .int .i64 y.2])).run Tryz.prog W = .ok (.bool (!decide (x = y))) W := by
  rw [run_neq_struct, run_equalIn_agg (ht := by kernel_rfl) (hp := by kernel_rfl)]
  simp [go_sem, Program.fieldsOf, Tryz.underlying49]
  obtain ⟨a, b⟩ := x
  obtain ⟨a', b'⟩ := y
  simp only [Prod.mk.injEq]
  by_cases h1 : a = a' <;> by_cases h2 : b = b' <;> simp [h1, h2]
set_option maxRecDepth 100000 in
set_option maxHeartbeats 2000000 in
theorem equalq_any (v v' : Value) (xs ys : List S2) (w : World) (h1 : Rd sc 2 w v xs) (h2 : Rd sc 2 w v' ys) (hx : xs.length ≤ 100000) :
    Calls Tryz.prog 25 #[v, v'] w fun e w' => e = .returned (.bool (decide (xs = ys))) ∧ Below w.heap.size w w' := by
  obtain ⟨q, c, rfl, k1⟩ := h1
  obtain ⟨q', c', rfl, k2⟩ := h2
  by_cases hl : xs.length = ys.length
  · have t1 : ((xs.length : Int) != (ys.length : Int)) = false := by simp; omega
    have HL := Lib.hid hl
    have K1 := Lib.hid k1
    have K2 := Lib.hid k2
    clear hl k1 k2
    go_enter Tryz.func25, Tryz.ntmps25
    go_wp2
    go_loopw [13] (fun v wr => ∃ k : Nat, v = .int .i64 k ∧ k ≤ xs.length ∧ Hid (∀ j (a : j < xs.length) (b : j < ys.length), j < k → xs[j] = ys[j]) ∧ ∃ n, wr = w.drewN n) (fun v _ => xs.length - (intOf v).toNat)
    case atStart => exact ⟨0, rfl, Nat.zero_le _, Lib.hid (fun j a b h => absurd h (Nat.not_lt_zero j)), 0, rfl⟩
    case round =>
      obtain ⟨k, rfl, hk, hE, nd, rfl⟩ := hrel
      by_cases hlt : k < xs.length
      · have g1 : decide ((k : Int) < (xs.length : Int)) = true := by simp [hlt]
        have hlt2 : k < ys.length := by rw [← HL.out]; exact hlt
        have W1 : IntKind.i64.wrap ((k : Int) + 1) = ((k + 1 : Nat) : Int) := by rw [IntWalk.i64_in _ (by omega)]; omega
        obtain ⟨g, rfl, c1⟩ := K1.out k hlt
        obtain ⟨g', rfl, c2⟩ := K2.out k hlt2
        obtain ⟨x, hxx⟩ : ∃ x, x = xs[k] := ⟨_, rfl⟩
        obtain ⟨y, hyy⟩ : ∃ y, y = ys[k] := ⟨_, rfl⟩
        rw [← hxx] at c1
        rw [← hyy] at c2
        have HX := Lib.hid hxx
        have HY := Lib.hid hyy
        clear hxx hyy
        have a0 := c1 0 (by omega)
        have a1 := c1 1 (by omega)
        have b0 := c2 0 (by omega)
        have b1 := c2 1 (by omega)
        clear c1 c2
        obtain ⟨x1, x2⟩ := x
        obtain ⟨y1, y2⟩ := y
        replace a0 : w.cell? ⟨g, k * 2, none⟩ = some (.int .i64 x1) := a0
        replace a1 : w.cell? ⟨g, k * 2 + 1, none⟩ = some (.int .i64 x2) := a1
        replace b0 : w.cell? ⟨g', k * 2, none⟩ = some (.int .i64 y1) := b0
        replace b1 : w.cell? ⟨g', k * 2 + 1, none⟩ = some (.int .i64 y2) := b1
        have q1 : (0 : Int) ≤ (k : Int) := by omega
        have q2 : (k : Int) < (xs.length : Int) := by omega
        have q3 : (k : Int) < (ys.length : Int) := by omega
        by_cases e : (⟨x1, x2⟩ : S2) = ⟨y1, y2⟩
        · have HE : Hid (∀ j (a : j < xs.length) (b : j < ys.length), j < k + 1 → xs[j] = ys[j]) := Lib.hid fun j a b h => by
            rcases Nat.lt_or_ge j k with h1 | h1
            · exact hE.out j a b h1
            · have : j = k := by omega
              subst this
              rw [← HX.out, ← HY.out, e]
          cases e
          have hne : ∀ W, (binOp .neq 49 (.agg #[.int .i64 x1, .int .i64 x2]) (.agg #[.int .i64 x1, .int .i64 x2])).run Tryz.prog W = .ok (.bool false) W := fun W => (ne49 (x1, x2) (x1, x2) W).trans (by rw [decide_eq_true rfl]; rfl)
          go_wp2_with fail
          go_quiet (fail)
          go_wp2
          exact ⟨⟨k + 1, rfl, hlt, HE, _, rfl⟩, by simp [intOf]; omega⟩
        · have HN := Lib.hid e
          have hne : ∀ W, (binOp .neq 49 (.agg #[.int .i64 x1, .int .i64 x2]) (.agg #[.int .i64 y1, .int .i64 y2])).run Tryz.prog W = .ok (.bool true) W := fun W => (ne49 (x1, x2) (y1, y2) W).trans (by rw [decide_eq_false e]; rfl)
          clear e
          go_wp2_with fail
          go_quiet (fail)
          go_wp2
          go_ret
          refine ⟨?_, by first | exact below_drewN (Below.refl _ _) _ | exact below_drewN (below_drewN (Below.refl _ _) _) _⟩
          have : decide (xs = ys) = false := by
            apply decide_eq_false
            intro h
            subst h
            exact HN.out (by rw [HX.out, HY.out])
          rw [this]; rfl
      · have g1 : decide ((k : Int) < (xs.length : Int)) = false := by simp; omega
        go_wp2
        go_ret
        refine ⟨?_, below_drewN (Below.refl _ _) _⟩
        have : decide (xs = ys) = true := decide_eq_true (List.ext_getElem HL.out fun j a b => hE.out j a b (by omega))
        rw [this]; rfl
  · have t1 : ((xs.length : Int) != (ys.length : Int)) = true := by simp; omega
    have HN := Lib.hid hl
    clear hl k1 k2
    go_enter Tryz.func25, Tryz.ntmps25
    go_wp2
    go_ret
    refine ⟨?_, Below.refl _ _⟩
    have : decide (xs = ys) = false := by
      apply decide_eq_false
      intro h
      exact HN.out (by rw [h])
    rw [this]; rfl
def lineB (c : Int) : Bar := ⟨⟨#[97]⟩, 10, c, 0, none, [1000], 0⟩
set_option maxRecDepth 100000 in
theorem line_any (c : Int) (w : World) : Calls Tryz.prog 34 #[.int .i64 c] w fun e w' => ∃ b : Bar, e = .returned b.val ∧ b.Ok w' ∧ nrm b = lineB c ∧ Below w.heap.size w w' := by
  have E := ((Env.nil w).add w.heap.size 60 #[.string ⟨#[97]⟩, .int .i64 10, .int .i64 c, .int .i64 0, .slice (some ⟨w.heap.size + 1, 0, none⟩) 1 1] rfl).add (w.heap.size + 1) 3 #[.int .i64 1000] (by simp)
  have hr := hd1 E
  obtain ⟨-, C0, C1, C2, C3, C4⟩ := s_b5 E.tail
  go_enter Tryz.func34, Tryz.ntmps34
  go_wp2
  exact bodyPost_ret (v := .agg #[.string ⟨#[97]⟩, .int .i64 10, .int .i64 c, .int .i64 0, .slice (some ⟨w.heap.size + 1, 0, none⟩) 1 1]) (by simp [results, Tryz.results34, go_sem, *]) rfl
    ⟨⟨⟨#[97]⟩, 10, c, 0, some ⟨w.heap.size + 1, 0, none⟩, [1000], 1⟩, rfl, ⟨show (1 : Nat) ≤ maxLen by decide, show (1 : Nat) ≤ maxLen by decide, ⟨_, _, rfl, fun j hj => ⟨_, rfl, by
      obtain rfl : j = 0 := by simp at hj; omega
      rw [Addr.add_lit]; exact hr⟩⟩⟩, rfl, envb E⟩
theorem valid_nrm_one (b c : Bar) (h : nrm b = nrm c) : validL [b] = validL [c] := by
  have e : ∀ x : Bar, validL [x] = barB (nrm x) := fun x => by
    unfold validL okAt
    simp [List.range_succ, fndV, fnd]
    rfl
  rw [e, e, h]
theorem line_mark {b : Bar} {c : Int} (h : nrm b = lineB c) : b.mark = ⟨#[97]⟩ ∧ b.size = 10 ∧ b.count = c ∧ b.code = 0 ∧ b.ds = [1000] := by
  obtain ⟨m, s, n, k, p, d, q⟩ := b
  simpa [nrm, lineB] using h
theorem line_valid {b : Bar} {c : Int} (h : nrm b = lineB c) (hc : 1 ≤ c ∧ c ≤ 1000) : validL [b] = true := by
  rw [valid_nrm_one b (lineB c) (by rw [h]; rfl)]
  have e : validL [lineB c] = barB (lineB c) := by
    unfold validL okAt
    simp [List.range_succ, fndV, fnd]
  rw [e]
  have e2 : barB (lineB 1) = true := by decide
  unfold barB at e2 ⊢
  simp only [Bool.and_eq_true, decide_eq_true_eq] at e2 ⊢
  exact ⟨⟨e2.1.1, hc.1⟩, hc.2⟩
theorem line_cut {b : Bar} {c : Int} (h : nrm b = lineB c) : cutB b = 1000 := by
  have e : cutB b = cutB (nrm b) := rfl
  rw [e, h]
  show cutB (lineB 0) = 1000
  decide
theorem it_1000 : Lib.itoa 1000 = [49, 48, 48, 48] := by
  have h := Lib.itoa_nonneg 1000
  rw [Lib.decDigits, dif_neg (by decide), Lib.decDigits, dif_neg (by decide), Lib.decDigits_two (by decide) (by decide)] at h
  exact h
theorem it_10 : Lib.itoa 10 = [49, 48] := by
  have h := Lib.itoa_nonneg 10
  rw [Lib.decDigits_two (by decide) (by decide)] at h
  exact h
theorem it_4 : Lib.itoa 4 = [52] := by
  have h := Lib.itoa_nonneg 4
  rw [Lib.decDigits_one (by decide)] at h
  exact h
theorem it_0 : Lib.itoa 0 = [48] := by
  have h := Lib.itoa_nonneg 0
  rw [Lib.decDigits_one (by decide)] at h
  exact h
theorem line_text {b : Bar} (h : nrm b = lineB 4) : textL [b] = [97, 32, 49, 48, 32, 52, 32, 48, 48, 32, 49, 48, 48, 48, 10] := by
  have e : textL [b] = textL [nrm b] := rfl
  rw [e, h]
  unfold textL lineL wordsB lineB itB cdB cdL
  simp only [List.flatMap_cons, List.flatMap_nil, List.map_cons, List.map_nil, it_10, it_4, it_0, it_1000]
  decide
theorem line_pcs {b : Bar} (h : nrm b = lineB 4) : pcs [b] 10 = [(1000, 4)] := by
  obtain ⟨h1, h2, h3, h4, h5⟩ := line_mark h
  have hv : ∀ x ∈ [b], barB x = true := (valid_all (line_valid h (by omega))).2
  have hm : ∀ x, hasC [b] 10 x = decide (x = 1000) := fun x => by
    simp [hasC, inC, h2, line_cut h]
    exact decide_eq_decide.2 ⟨Eq.symm, Eq.symm⟩
  have hk : pcK [b] 10 = [1000] := desc_uniq (pcK_desc _ _) (by simp) fun x => by
    rw [pcK_mem hv, hm]; simp
  unfold pcs
  rw [hk]
  simp [kct, inC, h2, line_cut h, h3]
theorem line_mrg {b c : Bar} (hb : nrm b = lineB 4) (hc : nrm c = lineB 2) : mrg [b] [b] [c] = some [bump b c] ∧ mgE [b] [c] = 0 ∧ nrm (bump b c) = lineB 6 := by
  obtain ⟨h1, h2, h3, h4, h5⟩ := line_mark hb
  obtain ⟨k1, k2, k3, k4, k5⟩ := line_mark hc
  have hf : fnd c.mark [b] = 0 := by simp [fnd, h1, k1]
  have e : mrg [b] [b] [c] = some [bump b c] := by
    have hs : smB b c = true := by simp [smB, h2, k2, h4, k4, h5, k5]
    unfold mrg
    rw [dif_pos (by rw [hf]; simp)]
    simp [hf, hs, mrg]
  refine ⟨e, ?_, ?_⟩
  · rw [mgE_some e]
    simp [bigB, bump, h3, k3]
  · obtain ⟨m, s, n, k, p, d, q⟩ := b
    simp at h1 h2 h3 h4 h5
    subst h1 h2 h3 h4 h5
    simp [nrm, bump, lineB, k3]
theorem slb_one {w : World} {h : Nat} {b : Bar} (hh : Has w h 60 b.cs) (hk : b.Ok w) : Slb w (some ⟨h, 0, none⟩) [b] 1 :=
  ⟨by simp, by simp [maxLen], fun k hkl => by
    obtain rfl : k = 0 := by simp at hkl; omega
    refine ⟨_, rfl, ?_⟩
    rw [Addr.add_lit]
    exact ⟨hh.read 0, hh.read 1, hh.read 2, hh.read 3, hh.read 4⟩, fun x hx => by rw [List.mem_singleton.1 hx]; exact hk⟩
end Go.Proofs.YthdafpbmmfelpaaGreatDoor
