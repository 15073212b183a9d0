/- Least and Greatest; the reference's Add and Sub. -/
import Derived.Test.YtplepbaafamjfaaV15
namespace Go.Proofs.Ytplepbaafamjfaa
open Go.ChangeShapes Go.WideShapes Go.ChangeAt Go.RowKit
set_option linter.unusedVariables false
set_option linter.unusedSimpArgs false

/-- The least, and the greatest, of some numbers. -/
def leF (f : Int → Int → Int) (l : List Int) : Int := l.tail.foldl f (l.headD 0)
theorem leF_snoc (f : Int → Int → Int) (l : List Int) (k : Nat) (h1 : 1 ≤ k) (h : k < l.length) : leF f (l.take (k + 1)) = f (leF f (l.take k)) l[k] := by
  unfold leF
  cases l with
  | nil => simp at h
  | cons x r =>
    cases k with
    | zero => omega
    | succ j =>
      simp only [List.take_succ_cons, List.tail_cons, List.headD_cons, List.getElem_cons_succ]
      rw [List.take_succ_eq_append_getElem (by simpa using h), List.foldl_append]; rfl
theorem leF_one (f : Int → Int → Int) (l : List Int) (h : 0 < l.length) : leF f (l.take 1) = l[0] := by
  cases l with
  | nil => simp at h
  | cons x r => rfl

set_option maxHeartbeats 1000000 in
theorem least_any (l : List Int) (g o n cap : Nat) (w : World) (h1 : 1 ≤ n) (hn : n ≤ 4) (hl : Hid (l.length = n)) (hc : Hid (∀ k, (h : k < l.length) → w.cell? ⟨g, o + k, none⟩ = some (.int .i64 l[k]))) :
    Calls Try.prog 49 #[.slice (some ⟨g, o, none⟩) n cap] w fun e w' => e = .returned (.int .i64 (leF mn l)) ∧ w = w' := by
  have c0 : w.cell? ⟨g, o, none⟩ = some (.int .i64 (leF mn (l.take 1))) := by
    rw [leF_one mn l (by rw [hl.out]; omega)]; exact hc.out 0 (by rw [hl.out]; omega)
  go_enter Try.func49, Try.ntmps49
  go_wp2
  go_loop [3, 4] (fun s t => ∃ k : Nat, 1 ≤ k ∧ k ≤ n ∧ t = .int .i64 k ∧ s = .int .i64 (leF mn (l.take k))) (fun _ t => n - (intOf t).toNat)
  case atStart => exact ⟨1, by omega, by omega, rfl, rfl⟩
  case round =>
    obtain ⟨k, hk1, hk, rfl, rfl⟩ := hrel
    by_cases hlt : k < n
    · have hs := leF_snoc mn l k hk1 (by rw [hl.out]; exact hlt)
      have ck := hc.out k (by rw [hl.out]; exact hlt)
      generalize leF mn (l.take k) = p at *
      generalize l[k]'(by rw [hl.out]; exact hlt) = q at *
      have HS := Lib.hid hs; clear hs c0
      by_cases c : q < p
      · go_wp2
        go_round
        case rel => exact ⟨k + 1, by omega, by omega, by go_num, by rw [HS.out, mn_if, if_pos c]⟩
        case measure => simp [intOf]; omega
      · go_wp2
        go_round
        case rel => exact ⟨k + 1, by omega, by omega, by go_num, by rw [HS.out, mn_if, if_neg c]⟩
        case measure => simp [intOf]; omega
    · have : k = n := by omega
      subst this
      have he : l.take k = l := List.take_of_length_le (by rw [hl.out]; omega)
      rw [he]
      clear he hlt hk c0
      go_wp2
      go_ret
      exact ⟨rfl, rfl⟩
set_option maxHeartbeats 1000000 in
theorem greatest_any (l : List Int) (g o n cap : Nat) (w : World) (h1 : 1 ≤ n) (hn : n ≤ 4) (hl : Hid (l.length = n)) (hc : Hid (∀ k, (h : k < l.length) → w.cell? ⟨g, o + k, none⟩ = some (.int .i64 l[k]))) :
    Calls Try.prog 48 #[.slice (some ⟨g, o, none⟩) n cap] w fun e w' => e = .returned (.int .i64 (leF mx l)) ∧ w = w' := by
  have c0 : w.cell? ⟨g, o, none⟩ = some (.int .i64 (leF mx (l.take 1))) := by
    rw [leF_one mx l (by rw [hl.out]; omega)]; exact hc.out 0 (by rw [hl.out]; omega)
  go_enter Try.func48, Try.ntmps48
  go_wp2
  go_loop [3, 4] (fun s t => ∃ k : Nat, 1 ≤ k ∧ k ≤ n ∧ t = .int .i64 k ∧ s = .int .i64 (leF mx (l.take k))) (fun _ t => n - (intOf t).toNat)
  case atStart => exact ⟨1, by omega, by omega, rfl, rfl⟩
  case round =>
    obtain ⟨k, hk1, hk, rfl, rfl⟩ := hrel
    by_cases hlt : k < n
    · have hs := leF_snoc mx l k hk1 (by rw [hl.out]; exact hlt)
      have ck := hc.out k (by rw [hl.out]; exact hlt)
      generalize leF mx (l.take k) = p at *
      generalize l[k]'(by rw [hl.out]; exact hlt) = q at *
      have HS := Lib.hid hs; clear hs c0
      by_cases c : p < q
      · go_wp2
        go_round
        case rel => exact ⟨k + 1, by omega, by omega, by go_num, by rw [HS.out, mx_if, if_pos c]⟩
        case measure => simp [intOf]; omega
      · go_wp2
        go_round
        case rel => exact ⟨k + 1, by omega, by omega, by go_num, by rw [HS.out, mx_if, if_neg c]⟩
        case measure => simp [intOf]; omega
    · have : k = n := by omega
      subst this
      have he : l.take k = l := List.take_of_length_le (by rw [hl.out]; omega)
      rw [he]
      clear he hlt hk c0
      go_wp2
      go_ret
      exact ⟨rfl, rfl⟩
theorem least2 (a b : Int) (W : World) (g : Nat) (h : Has W g 3 #[.int .i64 a, .int .i64 b]) :
    Calls Try.prog 49 #[.slice (some ⟨g, 0, none⟩) 2 2] W fun e w' => e = .returned (.int .i64 (mn a b)) ∧ W = w' :=
  least_any [a, b] g 0 2 2 W (by omega) (by omega) rfl (by
    intro k hk
    have hk' : k < 2 := by simpa using hk
    have : k = 0 ∨ k = 1 := by omega
    rcases this with rfl | rfl
    · exact h.read 0
    · exact h.read 1)
theorem greatest2 (a b : Int) (W : World) (g : Nat) (h : Has W g 3 #[.int .i64 a, .int .i64 b]) :
    Calls Try.prog 48 #[.slice (some ⟨g, 0, none⟩) 2 2] W fun e w' => e = .returned (.int .i64 (mx a b)) ∧ W = w' :=
  greatest_any [a, b] g 0 2 2 W (by omega) (by omega) rfl (by
    intro k hk
    have hk' : k < 2 := by simpa using hk
    have : k = 0 ∨ k = 1 := by omega
    rcases this with rfl | rfl
    · exact h.read 0
    · exact h.read 1)

theorem rsadd_ok (al ah bl bh : Int) (w : World) (va : SV al ah) (vb : SV bl bh) {x y e0 : Int} (hr : addS al ah bl bh = (x, y, e0)) :
    Calls Try.prog 19 #[.agg #[.int .i64 al, .int .i64 ah], .agg #[.int .i64 bl, .int .i64 bh]] w fun e w' => e = .returned (.tuple #[.agg #[.int .i64 x, .int .i64 y], .int .i64 e0]) ∧ Below w.heap.size w w' := by
  obtain ⟨a1, a2, a3⟩ := va
  obtain ⟨b1, b2, b3⟩ := vb
  have W1 : IntKind.i64.wrap (al + bl) = al + bl := IntWalk.i64_in _ (by omega)
  have W2 : IntKind.i64.wrap (ah + bh) = ah + bh := IntWalk.i64_in _ (by omega)
  have hF := fun w => rfits_any (al + bl) (ah + bh) w hr
  clear hr
  go_enter Try.func19, Try.ntmps19
  go_wp2_with (go_at_call 47; (with_reducible refine (hF _).mono ?_); rintro e w3 ⟨rfl, hb⟩; have E := (env_three w al ah bl bh 0 0 23 23 23).on hb; have C := E.cells; simp only [BC] at C; clear hb)
  refine bodyPost_ret (v := .tuple #[.agg #[.int .i64 x, .int .i64 y], .int .i64 e0]) (by simp [results, Try.results19, go_sem, C]) rfl ⟨rfl, ?_⟩
  exact (E.1.setCell (by simp; omega) _).setCell (by simp; omega) _
theorem rssub_ok (al ah bl bh : Int) (w : World) (va : SV al ah) (vb : SV bl bh) {x y e0 : Int} (hr : subS al ah bl bh = (x, y, e0)) :
    Calls Try.prog 20 #[.agg #[.int .i64 al, .int .i64 ah], .agg #[.int .i64 bl, .int .i64 bh]] w fun e w' => e = .returned (.tuple #[.agg #[.int .i64 x, .int .i64 y], .int .i64 e0]) ∧ Below w.heap.size w w' := by
  obtain ⟨a1, a2, a3⟩ := va
  obtain ⟨b1, b2, b3⟩ := vb
  have W1 : IntKind.i64.wrap (al - bh) = al - bh := IntWalk.i64_in _ (by omega)
  have W2 : IntKind.i64.wrap (ah - bl) = ah - bl := IntWalk.i64_in _ (by omega)
  have hF := fun w => rfits_any (al - bh) (ah - bl) w hr
  clear hr
  go_enter Try.func20, Try.ntmps20
  go_wp2_with (go_at_call 47; (with_reducible refine (hF _).mono ?_); rintro e w3 ⟨rfl, hb⟩; have E := (env_three w al ah bl bh 0 0 23 23 23).on hb; have C := E.cells; simp only [BC] at C; clear hb)
  refine bodyPost_ret (v := .tuple #[.agg #[.int .i64 x, .int .i64 y], .int .i64 e0]) (by simp [results, Try.results20, go_sem, C]) rfl ⟨rfl, ?_⟩
  exact (E.1.setCell (by simp; omega) _).setCell (by simp; omega) _
end Go.Proofs.Ytplepbaafamjfaa
