/- Pulse, of both. -/
import Derived.Test.YtbohcedclnbcdaaV11
namespace Go.Proofs.Ytbohcedclnbcdaa
open Go.ChangeShapes Go.WideShapes Go.ChangeAt Go.RowKit
set_option linter.unusedVariables false
set_option linter.unusedSimpArgs false

def pul (fr tz v : Int) : List Stp × Int := if (rng fr tz && !decide (fr = tz) && ara v) = true then (sht [(fr, v), (tz, 0)], 0) else ([], 2)
theorem pul_ok {fr tz v : Int} (h : (rng fr tz && !decide (fr = tz) && ara v) = true) : OkS [(fr, v), (tz, 0)] := by
  unfold rng at h
  simp at h
  obtain ⟨⟨⟨⟨h1, h2⟩, h3⟩, h4⟩, h5⟩ := h
  refine ⟨by simp, fun s hs => ?_, fun s hs => ?_, ?_⟩
  · simp at hs; rcases hs with rfl | rfl <;> assumption
  · simp at hs; rcases hs with rfl | rfl
    · assumption
    · show ara 0 = true; decide
  · unfold Asc
    simp
    omega
set_option maxHeartbeats 1000000 in
set_option maxRecDepth 100000 in
theorem pulse_no (fr tz v : Int) (w : World) (h : (rng fr tz && !decide (fr = tz) && ara v) = false) :
    Calls Try.prog 29 #[.int .i64 fr, .int .i64 tz, .int .i64 v] w fun e w' => e = .returned (.tuple #[.slice none 0 0, .int .i64 2]) ∧ Below w.heap.size w w' := by
  have h1 := fun W => range_any fr tz W
  have h2 := fun W => area_any v W
  generalize rng fr tz = R at *
  generalize ara v = A at *
  by_cases he : fr = tz
  · have g1 : decide (fr = tz) = true := decide_eq_true he
    have g2 : (fr == tz) = true := by simp [he]
    clear h he
    cases R <;> cases A
    all_goals (
      go_enter Try.func29, Try.ntmps29
      go_wp2_with (first | (go_at_call 49; (with_reducible refine (h1 _).mono ?_); rintro e w' ⟨rfl, rfl⟩) | (go_at_call 43; (with_reducible refine (h2 _).mono ?_); rintro e w' ⟨rfl, rfl⟩))
      exact bodyPost_ret (v := .tuple #[.slice none 0 0, .int .i64 2]) (by simp [results, Try.results29, go_sem]) rfl ⟨rfl, Below.refl _ _⟩)
  · have g1 : decide (fr = tz) = false := decide_eq_false he
    have g2 : (fr == tz) = false := by simp [he]
    rw [g1] at h
    clear he
    cases R <;> cases A
    case true.true => simp at h
    all_goals (
      clear h
      go_enter Try.func29, Try.ntmps29
      go_wp2_with (first | (go_at_call 49; (with_reducible refine (h1 _).mono ?_); rintro e w' ⟨rfl, rfl⟩) | (go_at_call 43; (with_reducible refine (h2 _).mono ?_); rintro e w' ⟨rfl, rfl⟩))
      exact bodyPost_ret (v := .tuple #[.slice none 0 0, .int .i64 2]) (by simp [results, Try.results29, go_sem]) rfl ⟨rfl, Below.refl _ _⟩)
theorem I64.of_plc {x : Int} (h : plc x = true) : I64 x := by rw [plc_iff] at h; unfold I64; omega
theorem I64.of_ara {x : Int} (h : ara x = true) : I64 x := by rw [ara_iff] at h; unfold I64; omega
theorem OkS.i64 {l : List Stp} (h : OkS l) : ∀ x ∈ l, I64 x.1 ∧ I64 x.2 := fun x hx => ⟨.of_plc (h.pl x hx), .of_ara (h.ar x hx)⟩
theorem lit2 {w : World} {g : Nat} {a b c d : Int} (H : Has w g 34 #[.int .i64 a, .int .i64 b, .int .i64 c, .int .i64 d]) (h6 : ∀ x ∈ [(a, b), (c, d)], I64 x.1 ∧ I64 x.2) : Sl w (some ⟨g, 0, none⟩) [(a, b), (c, d)] :=
  Has.sl (l := [(a, b), (c, d)]) H (by simp [maxLen]) h6
set_option maxHeartbeats 1000000 in
set_option maxRecDepth 100000 in
theorem pulse_yes (fr tz v : Int) (w : World) (h : (rng fr tz && !decide (fr = tz) && ara v) = true) :
    Calls Try.prog 29 #[.int .i64 fr, .int .i64 tz, .int .i64 v] w fun e w' => ∃ u, e = .returned (.tuple #[u, .int .i64 0]) ∧ OwnS w.heap.size w' u (sht [(fr, v), (tz, 0)]) ∧ Below w.heap.size w w' := by
  have hO := pul_ok h
  have h1 := fun W => range_any fr tz W
  have h2 := fun W => area_any v W
  simp only [Bool.and_eq_true, Bool.not_eq_true'] at h
  rw [h.1.1] at h1
  rw [h.2] at h2
  have g1 := h.1.2
  have g2 : (fr == tz) = false := by simpa using g1
  have hS := lit2 (Has.new_ w 34 #[.int .i64 fr, .int .i64 v, .int .i64 tz, .int .i64 0]) hO.i64
  have hsh := short_any (some ⟨w.heap.size, 0, none⟩) [(fr, v), (tz, 0)] 2 _ hS
  have e : sc [(fr, v), (tz, 0)] = (sht [(fr, v), (tz, 0)], 0) := by unfold sc; rw [okS_of hO]; rfl
  rw [e] at hsh
  simp only [List.length_cons, List.length_nil, Nat.zero_add, Nat.reduceAdd] at hsh
  generalize sht [(fr, v), (tz, 0)] = L at *
  clear e hS hO h
  go_enter Try.func29, Try.ntmps29
  go_wp2_with (first
    | (go_at_call 49; (with_reducible refine (h1 _).mono ?_); rintro e w' ⟨rfl, rfl⟩)
    | (go_at_call 43; (with_reducible refine (h2 _).mono ?_); rintro e w' ⟨rfl, rfl⟩)
    | (go_at_call 14; (with_reducible refine hsh.mono ?_); rintro e w5 ⟨u, rfl, ho, hb⟩))
  exact bodyPost_ret (v := .tuple #[u, .int .i64 0]) (by simp [results, Try.results29, go_sem]) rfl ⟨u, rfl, ho.mono (by simp), belows (al1 _ _) hb⟩
theorem pulse_any (fr tz v : Int) (w : World) :
    Calls Try.prog 29 #[.int .i64 fr, .int .i64 tz, .int .i64 v] w fun e w' => ∃ u, e = .returned (.tuple #[u, .int .i64 (pul fr tz v).2]) ∧ OwnS w.heap.size w' u (pul fr tz v).1 ∧ Below w.heap.size w w' := by
  cases h : (rng fr tz && !decide (fr = tz) && ara v)
  · have e : pul fr tz v = ([], 2) := by unfold pul; rw [if_neg (by rw [h]; simp)]
    rw [e]
    refine (pulse_no fr tz v w h).mono ?_
    rintro e w' ⟨rfl, hb⟩
    exact ⟨_, rfl, OwnS.nil _ _, hb⟩
  · have e : pul fr tz v = (sht [(fr, v), (tz, 0)], 0) := by unfold pul; rw [if_pos h]
    rw [e]
    exact pulse_yes fr tz v w h
theorem rng_lt (fr tz v : Int) : (rng fr tz && !decide (fr = tz) && ara v) = (plc fr && plc tz && decide (fr < tz) && ara v) := by
  unfold rng
  have : (decide (fr ≤ tz) && !decide (fr = tz)) = decide (fr < tz) := by
    by_cases h : fr < tz
    · rw [decide_eq_true h, decide_eq_true (by omega : fr ≤ tz), decide_eq_false (by omega)]; rfl
    · rw [decide_eq_false h]
      by_cases h2 : fr = tz
      · rw [decide_eq_true h2]; simp
      · rw [decide_eq_false (by omega : ¬ fr ≤ tz)]; rfl
  rw [← this]
  cases plc fr <;> cases plc tz <;> simp
set_option maxHeartbeats 1000000 in
set_option maxRecDepth 100000 in
theorem rpulse_no (fr tz v : Int) (w : World) (h : (plc fr && plc tz && decide (fr < tz) && ara v) = false) :
    Calls Try.prog 30 #[.int .i64 fr, .int .i64 tz, .int .i64 v] w fun e w' => e = .returned (.tuple #[.slice none 0 0, .int .i64 2]) ∧ Below w.heap.size w w' := by
  have h1 := fun W => rplace_any fr W
  have h3 := fun W => rplace_any tz W
  have h2 := fun W => rarea_any v W
  generalize plc fr = R at *
  generalize plc tz = T at *
  generalize ara v = A at *
  by_cases he : fr < tz
  · have g1 : decide (tz ≤ fr) = false := decide_eq_false (by omega)
    rw [decide_eq_true he] at h
    clear he
    cases R <;> cases T <;> cases A
    case true.true.true => simp at h
    all_goals (
      clear h
      go_enter Try.func30, Try.ntmps30
      go_wp2_with (first | (go_at_call 40; (with_reducible refine (h1 _).mono ?_); rintro e w' ⟨rfl, rfl⟩) | (go_at_call 40; (with_reducible refine (h3 _).mono ?_); rintro e w' ⟨rfl, rfl⟩) | (go_at_call 41; (with_reducible refine (h2 _).mono ?_); rintro e w' ⟨rfl, rfl⟩))
      exact bodyPost_ret (v := .tuple #[.slice none 0 0, .int .i64 2]) (by simp [results, Try.results30, go_sem]) rfl ⟨rfl, Below.refl _ _⟩)
  · have g1 : decide (tz ≤ fr) = true := decide_eq_true (by omega)
    clear h he
    cases R <;> cases T <;> cases A
    all_goals (
      go_enter Try.func30, Try.ntmps30
      go_wp2_with (first | (go_at_call 40; (with_reducible refine (h1 _).mono ?_); rintro e w' ⟨rfl, rfl⟩) | (go_at_call 40; (with_reducible refine (h3 _).mono ?_); rintro e w' ⟨rfl, rfl⟩) | (go_at_call 41; (with_reducible refine (h2 _).mono ?_); rintro e w' ⟨rfl, rfl⟩))
      exact bodyPost_ret (v := .tuple #[.slice none 0 0, .int .i64 2]) (by simp [results, Try.results30, go_sem]) rfl ⟨rfl, Below.refl _ _⟩)
set_option maxHeartbeats 1000000 in
set_option maxRecDepth 100000 in
theorem rpulse_yes (fr tz v : Int) (w : World) (h0 : (rng fr tz && !decide (fr = tz) && ara v) = true) :
    Calls Try.prog 30 #[.int .i64 fr, .int .i64 tz, .int .i64 v] w fun e w' => ∃ u, e = .returned (.tuple #[u, .int .i64 0]) ∧ OwnS w.heap.size w' u (sht [(fr, v), (tz, 0)]) ∧ Below w.heap.size w w' := by
  have hO := pul_ok h0
  have h := h0
  rw [rng_lt] at h
  simp only [Bool.and_eq_true] at h
  have h1 := fun W => rplace_any fr W
  have h3 := fun W => rplace_any tz W
  have h2 := fun W => rarea_any v W
  rw [h.1.1.1] at h1
  rw [h.1.1.2] at h3
  rw [h.2] at h2
  have g1 : decide (tz ≤ fr) = false := decide_eq_false (by have := h.1.2; simp at this; omega)
  have hS := lit2 (Has.new_ w 34 #[.int .i64 fr, .int .i64 v, .int .i64 tz, .int .i64 0]) hO.i64
  have hsh := rshort_any (some ⟨w.heap.size, 0, none⟩) [(fr, v), (tz, 0)] 2 _ hS (by simp)
  simp only [List.length_cons, List.length_nil, Nat.zero_add, Nat.reduceAdd] at hsh
  generalize sht [(fr, v), (tz, 0)] = L at *
  clear hS hO h h0
  go_enter Try.func30, Try.ntmps30
  go_wp2_with (first
    | (go_at_call 40; (with_reducible refine (h1 _).mono ?_); rintro e w' ⟨rfl, hw⟩; obtain rfl := hw.symm; clear hw)
    | (go_at_call 40; (with_reducible refine (h3 _).mono ?_); rintro e w' ⟨rfl, hw⟩; obtain rfl := hw.symm; clear hw)
    | (go_at_call 41; (with_reducible refine (h2 _).mono ?_); rintro e w' ⟨rfl, hw⟩; obtain rfl := hw.symm; clear hw)
    | (go_at_call 19; (with_reducible refine hsh.mono ?_); rintro e w5 ⟨u, rfl, ho, hb⟩))
  exact bodyPost_ret (v := .tuple #[u, .int .i64 0]) (by simp [results, Try.results30, go_sem]) rfl ⟨u, rfl, ho.mono (by simp), belows (al1 _ _) hb⟩
theorem rpulse_any (fr tz v : Int) (w : World) :
    Calls Try.prog 30 #[.int .i64 fr, .int .i64 tz, .int .i64 v] w fun e w' => ∃ u, e = .returned (.tuple #[u, .int .i64 (pul fr tz v).2]) ∧ OwnS w.heap.size w' u (pul fr tz v).1 ∧ Below w.heap.size w w' := by
  cases h : (rng fr tz && !decide (fr = tz) && ara v)
  · have e : pul fr tz v = ([], 2) := by unfold pul; rw [if_neg (by rw [h]; simp)]
    rw [e]
    refine (rpulse_no fr tz v w (by rw [← rng_lt]; exact h)).mono ?_
    rintro e w' ⟨rfl, hb⟩
    exact ⟨_, rfl, OwnS.nil _ _, hb⟩
  · have e : pul fr tz v = (sht [(fr, v), (tz, 0)], 0) := by unfold pul; rw [if_pos h]
    rw [e]
    exact rpulse_yes fr tz v w h
end Go.Proofs.Ytbohcedclnbcdaa
