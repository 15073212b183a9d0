/- The contract of awake: the examples of the chapter hold. No conditions. -/
import Derived.Test.YtkabmmpldanmcaaDoorPar2
import Derived.Test.YtkabmmpldanmcaaDoorFmt
import Derived.Test.YtkabmmpldanmcaaDoorTk1
namespace Go.Proofs.YtkabmmpldanmcaaDoor
open Go.ChangeShapes Go.WideShapes Go.ChangeAt Go.RowKit
set_option linter.unusedVariables false

theorem ex_fmt : fmtL (-1234) 2 = [45, 49, 50, 46, 51, 52] := by decide +kernel
theorem ex_par : parseL [49, 50, 46, 51] 2 = (1230, 0) := by decide +kernel
theorem ex_rnd : rnd (-15) 10 = -1 := by decide
def exBytes : List UInt8 := [115, 101, 116, 32, 103, 49, 32, 58, 61, 32, 48, 32, 35, 32, 111, 102, 102]
def exToks : List Tok := [⟨1, [115, 101, 116], 1, 1⟩, ⟨1, [103, 49], 1, 5⟩, ⟨3, [58, 61], 1, 8⟩, ⟨2, [48], 1, 11⟩, ⟨5, [], 1, 18⟩]
theorem ex_tok : T exBytes 1 1 = .good exToks := by kernel_rfl

theorem awk_fmt (w : World) : Calls Tryd.prog 11 #[.int .i64 (-1234), .int .i64 2] w fun e w' => e = .returned (.tuple #[.string ⟨#[45, 49, 50, 46, 51, 52]⟩, .int .i64 0]) ∧ Below w.heap.size w w' := by
  have h := format_ok (-1234) 2 w (by omega) (by omega) (by omega)
  rw [ex_fmt] at h; exact h
theorem awk_par (w : World) : Calls Tryd.prog 12 #[.string ⟨#[49, 50, 46, 51]⟩, .int .i64 2] w fun e w' => e = .returned (.tuple #[.int .i64 1230, .int .i64 0]) ∧ Below w.heap.size w w' := by
  have h := parse_any ⟨#[49, 50, 46, 51]⟩ 2 w (by omega) (by decide)
  have e : (⟨#[49, 50, 46, 51]⟩ : ByteArray).data.toList = [49, 50, 46, 51] := rfl
  rw [e, ex_par] at h; exact h
theorem awk_rnd (w : World) : Calls Tryd.prog 13 #[.int .i64 (-15), .int .i64 10] w fun e w' => e = .returned (.tuple #[.int .i64 (-1), .int .i64 0]) ∧ Below w.heap.size w w' := by
  have h := round_ok (-15) 10 w (by omega) (by omega) (by omega) (by omega)
  rw [ex_rnd] at h
  exact h.mono fun e w' ⟨he, n, hw⟩ => ⟨he, by rw [hw]; exact below_drewN (Below.refl _ _) _⟩

/-- The tokens of the example: what is read of them later. -/
def AwkTok (w : World) (e : Ending) (w' : World) : Prop :=
  ∃ g cap : Nat, e = .returned (.tuple #[.slice (some ⟨g, 0, none⟩) 5 cap, .agg #[.int .i64 0, .int .i64 0], .int .i64 0]) ∧ Below w.heap.size w w' ∧
    w'.cell? ⟨g, 9, none⟩ = some (.string ⟨#[58, 61]⟩) ∧ w'.cell? ⟨g, 18, none⟩ = some (.int .i64 1) ∧ w'.cell? ⟨g, 19, none⟩ = some (.int .i64 18) ∧ g < w'.heap.size

theorem own_cells {w : World} {base : Nat} {v : Value} {ts : List Tok} (h : w.ownsRow base 30 4 v ts.length (tcells ts)) (h0 : 0 < ts.length) :
    ∃ g cap, v = .slice (some ⟨g, 0, none⟩) ts.length cap ∧ g < w.heap.size ∧ ∀ j u, (tcells ts)[j]? = some u → w.cell? ⟨g, j, none⟩ = some u := by
  rcases h.2 with ⟨_, h1⟩ | ⟨g, cap, cur, hv, hg, hh, hn, hc, hz, ht⟩
  · omega
  · refine ⟨g, cap, hv, (Array.getElem?_eq_some_iff.1 hh).1, fun j u hj => ?_⟩
    rw [cell_of_row w g j cur 30 (0, 0) hh]
    rw [← ht] at hj
    rw [List.getElem?_take] at hj
    split at hj
    · simpa using hj
    · cases hj

theorem awk_tok (w : World) : Calls Tryd.prog 5 #[.string ⟨#[115, 101, 116, 32, 103, 49, 32, 58, 61, 32, 48, 32, 35, 32, 111, 102, 102]⟩] w (AwkTok w) := by
  have h := tokens_any ⟨#[115, 101, 116, 32, 103, 49, 32, 58, 61, 32, 48, 32, 35, 32, 111, 102, 102]⟩ w (by decide)
  have e : (⟨#[115, 101, 116, 32, 103, 49, 32, 58, 61, 32, 48, 32, 35, 32, 111, 102, 102]⟩ : ByteArray).data.toList = exBytes := rfl
  refine h.mono fun e' w' ⟨hb, hm⟩ => ?_
  rw [e, ex_tok] at hm
  obtain ⟨v, he, hown⟩ := hm
  obtain ⟨g, cap, rfl, hg, hc⟩ := own_cells hown (by decide)
  exact ⟨g, cap, he, hb, hc 9 _ rfl, hc 18 _ rfl, hc 19 _ rfl, hg⟩

theorem belows {a b c : World} (h1 : Below a.heap.size a b) (h2 : Below b.heap.size b c) : Below a.heap.size a c := h1.trans (h2.mono h1.size)

theorem awake_any (w : World) : Calls Tryd.prog 4 #[] w fun e w' => e = .returned (.bool true) ∧ Below w.heap.size w w' := by
  go_enter Tryd.func4, Tryd.ntmps4
  go_wp2_with (first | (go_at_call 11; refine (awk_fmt _).mono ?_; rintro e w1 ⟨rfl, hb1⟩) | (go_at_call 12; refine (awk_par _).mono ?_; rintro e w2 ⟨rfl, hb2⟩) | (go_at_call 13; refine (awk_rnd _).mono ?_; rintro e w3 ⟨rfl, hb3⟩) | (go_at_call 5; refine (awk_tok _).mono ?_; rintro e w4 ⟨g, cap, rfl, hb4, c1, c2, c3, hg⟩))
  go_ret
  exact ⟨rfl, (belows (belows (belows hb1 hb2) hb3) hb4).alloc (belows (belows (belows hb1 hb2) hb3) hb4).size _⟩
end Go.Proofs.YtkabmmpldanmcaaDoor
