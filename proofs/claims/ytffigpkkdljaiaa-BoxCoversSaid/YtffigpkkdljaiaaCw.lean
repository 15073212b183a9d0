/- Covers. -/
import Derived.Test.YtffigpkkdljaiaaCv
namespace Go.Proofs.Ytffigpkkdljaiaa
open Go.ChangeShapes Go.WideShapes Go.ChangeAt Go.RowKit
set_option linter.unusedVariables false
set_option linter.unusedSimpArgs false

set_option maxRecDepth 100000 in
theorem Covers_arg (p : Option Addr) (l : List Bx) (cap : Nat) (b : Bx) (w : World) (hS : Sl w p l) (h : b.ok = false ∨ l.all Bx.ok = false) :
    Calls Try.prog 32 #[.slice p l.length cap, b.val] w fun e w' => e = .returned (.tuple #[.bool false, .int .i64 1]) ∧ Below w.heap.size w w' := by
  have hh := fun W => valid_any b.a b.b b.c b.d b.e b.f W
  have hS1 := hS.on (al1 w (.cells #[.int .i64 b.a, .int .i64 b.b, .int .i64 b.c, .int .i64 b.d, .int .i64 b.e, .int .i64 b.f] 25))
  have hB0 := al1 w (.cells #[.int .i64 b.a, .int .i64 b.b, .int .i64 b.c, .int .i64 b.d, .int .i64 b.e, .int .i64 b.f] 25)
  have hm := hS.2.2
  unfold maxLen at hm
  have hN := (Has.new_ w 25 #[.int .i64 b.a, .int .i64 b.b, .int .i64 b.c, .int .i64 b.d, .int .i64 b.e, .int .i64 b.f]).cells6
  unfold Bx.val
  cases hv : b.ok
  · unfold Bx.ok at hv
    rw [hv] at hh
    go_enter Try.func32, Try.ntmps32
    go_wp2_with (first
    | (go_at_call 22; (with_reducible refine (hh _).mono ?_); rintro X w1 ⟨rfl, hb⟩; have hS2 := hS1.on hb; have hB1 := belows hB0 hb; have hN1 := ((Has.new_ w 25 #[.int .i64 b.a, .int .i64 b.b, .int .i64 b.c, .int .i64 b.d, .int .i64 b.e, .int .i64 b.f]).on hb).cells6)
    | (go_at_call 49; (with_reducible refine (allvalid_any p l cap _ hS2).mono ?_); rintro X w2 ⟨rfl, hb2⟩; have hS3 := hS2.on hb2; have hB2 := belows hB1 hb2; have hN2 := (((Has.new_ w 25 #[.int .i64 b.a, .int .i64 b.b, .int .i64 b.c, .int .i64 b.d, .int .i64 b.e, .int .i64 b.f]).on hb).on hb2).cells6)
    | (go_at_call 56; refine (covers_any p l cap b _ hS3 hl).mono ?_; rintro X w3 ⟨rfl, hb3⟩))
    refine bodyPost_ret (v := .tuple #[.bool false, .int .i64 1]) (by simp [results, Try.results32, go_sem]) rfl ⟨rfl, hB1⟩
  · have hl : l.all Bx.ok = false := by rcases h with h | h; rw [hv] at h; cases h; exact h
    unfold Bx.ok at hv
    rw [hv] at hh
    have h49 := fun W h => allvalid_any p l cap W h
    rw [hl] at h49
    go_enter Try.func32, Try.ntmps32
    go_wp2_with (first
    | (go_at_call 22; (with_reducible refine (hh _).mono ?_); rintro X w1 ⟨rfl, hb⟩; have hS2 := hS1.on hb; have hB1 := belows hB0 hb; have hN1 := ((Has.new_ w 25 #[.int .i64 b.a, .int .i64 b.b, .int .i64 b.c, .int .i64 b.d, .int .i64 b.e, .int .i64 b.f]).on hb).cells6)
    | (go_at_call 49; (with_reducible refine (h49 _ hS2).mono ?_); rintro X w2 ⟨rfl, hb2⟩; have hS3 := hS2.on hb2; have hB2 := belows hB1 hb2; have hN2 := (((Has.new_ w 25 #[.int .i64 b.a, .int .i64 b.b, .int .i64 b.c, .int .i64 b.d, .int .i64 b.e, .int .i64 b.f]).on hb).on hb2).cells6)
    | (go_at_call 56; refine (covers_any p l cap b _ hS3 hl).mono ?_; rintro X w3 ⟨rfl, hb3⟩))
    refine bodyPost_ret (v := .tuple #[.bool false, .int .i64 1]) (by simp [results, Try.results32, go_sem]) rfl ⟨rfl, hB2⟩
set_option maxRecDepth 100000 in
theorem Covers_full (p : Option Addr) (l : List Bx) (cap : Nat) (b : Bx) (w : World) (hS : Sl w p l) (hv : b.ok = true) (hl : l.all Bx.ok = true) (h40 : 40 < l.length) :
    Calls Try.prog 32 #[.slice p l.length cap, b.val] w fun e w' => e = .returned (.tuple #[.bool false, .int .i64 4]) ∧ Below w.heap.size w w' := by
  have hh := fun W => valid_any b.a b.b b.c b.d b.e b.f W
  have hS1 := hS.on (al1 w (.cells #[.int .i64 b.a, .int .i64 b.b, .int .i64 b.c, .int .i64 b.d, .int .i64 b.e, .int .i64 b.f] 25))
  have hB0 := al1 w (.cells #[.int .i64 b.a, .int .i64 b.b, .int .i64 b.c, .int .i64 b.d, .int .i64 b.e, .int .i64 b.f] 25)
  have hm := hS.2.2
  unfold maxLen at hm
  have hN := (Has.new_ w 25 #[.int .i64 b.a, .int .i64 b.b, .int .i64 b.c, .int .i64 b.d, .int .i64 b.e, .int .i64 b.f]).cells6
  unfold Bx.val
  unfold Bx.ok at hv
  rw [hv] at hh
  have h49 := fun W h => allvalid_any p l cap W h
  rw [hl] at h49
  have g : decide ((40 : Int) < (l.length : Int)) = true := by simp; omega
  go_enter Try.func32, Try.ntmps32
  go_wp2_with (first
    | (go_at_call 22; (with_reducible refine (hh _).mono ?_); rintro X w1 ⟨rfl, hb⟩; have hS2 := hS1.on hb; have hB1 := belows hB0 hb; have hN1 := ((Has.new_ w 25 #[.int .i64 b.a, .int .i64 b.b, .int .i64 b.c, .int .i64 b.d, .int .i64 b.e, .int .i64 b.f]).on hb).cells6)
    | (go_at_call 49; (with_reducible refine (h49 _ hS2).mono ?_); rintro X w2 ⟨rfl, hb2⟩; have hS3 := hS2.on hb2; have hB2 := belows hB1 hb2; have hN2 := (((Has.new_ w 25 #[.int .i64 b.a, .int .i64 b.b, .int .i64 b.c, .int .i64 b.d, .int .i64 b.e, .int .i64 b.f]).on hb).on hb2).cells6)
    | (go_at_call 56; refine (covers_any p l cap b _ hS3 hl).mono ?_; rintro X w3 ⟨rfl, hb3⟩))
  refine bodyPost_ret (v := .tuple #[.bool false, .int .i64 4]) (by simp [results, Try.results32, go_sem]) rfl ⟨rfl, hB2⟩
set_option maxRecDepth 100000 in
theorem Covers_ok (p : Option Addr) (l : List Bx) (cap : Nat) (b : Bx) (w : World) (hS : Sl w p l) (hv : b.ok = true) (hl' : l.all Bx.ok = true) (hl : l.length ≤ 40) :
    Calls Try.prog 32 #[.slice p l.length cap, b.val] w fun e w' => e = .returned (.tuple #[.bool (covB l b), .int .i64 0]) ∧ Below w.heap.size w w' := by
  have hh := fun W => valid_any b.a b.b b.c b.d b.e b.f W
  have hS1 := hS.on (al1 w (.cells #[.int .i64 b.a, .int .i64 b.b, .int .i64 b.c, .int .i64 b.d, .int .i64 b.e, .int .i64 b.f] 25))
  have hB0 := al1 w (.cells #[.int .i64 b.a, .int .i64 b.b, .int .i64 b.c, .int .i64 b.d, .int .i64 b.e, .int .i64 b.f] 25)
  have hm := hS.2.2
  unfold maxLen at hm
  have hN := (Has.new_ w 25 #[.int .i64 b.a, .int .i64 b.b, .int .i64 b.c, .int .i64 b.d, .int .i64 b.e, .int .i64 b.f]).cells6
  have h56 := fun W h => covers_any p l cap b W h hl
  unfold Bx.val at *
  unfold Bx.ok at hv
  rw [hv] at hh
  have h49 := fun W h => allvalid_any p l cap W h
  rw [hl'] at h49
  have g : decide ((40 : Int) < (l.length : Int)) = false := by simp; omega
  go_enter Try.func32, Try.ntmps32
  go_wp2_with (first
    | (go_at_call 22; (with_reducible refine (hh _).mono ?_); rintro X w1 ⟨rfl, hb⟩; have hS2 := hS1.on hb; have hB1 := belows hB0 hb; have hN1 := ((Has.new_ w 25 #[.int .i64 b.a, .int .i64 b.b, .int .i64 b.c, .int .i64 b.d, .int .i64 b.e, .int .i64 b.f]).on hb).cells6)
    | (go_at_call 49; (with_reducible refine (h49 _ hS2).mono ?_); rintro X w2 ⟨rfl, hb2⟩; have hS3 := hS2.on hb2; have hB2 := belows hB1 hb2; have hN2 := (((Has.new_ w 25 #[.int .i64 b.a, .int .i64 b.b, .int .i64 b.c, .int .i64 b.d, .int .i64 b.e, .int .i64 b.f]).on hb).on hb2).cells6)
    | (go_at_call 56; (with_reducible refine (h56 _ hS3).mono ?_); rintro X w3 ⟨rfl, hb3⟩))
  refine bodyPost_ret (v := .tuple #[.bool (covB l b), .int .i64 0]) (by simp [results, Try.results32, go_sem]) rfl ⟨rfl, belows hB2 hb3⟩
def xA : Bx := ⟨0, 0, 0, 10, 10, 10⟩
def xB : Bx := ⟨13, 14, 5, 20, 20, 20⟩
def xC : Bx := ⟨0, 0, 0, 4, 10, 10⟩
def xD : Bx := ⟨4, 0, 0, 11, 10, 10⟩
theorem ex_cov : covB [xC, xD] xA = true := by
  have s1 : ([0, 10, 4, 4] : List Int).mergeSort (fun x y => decide (x ≤ y)) = [0, 4, 4, 10] := by simp [List.mergeSort, List.MergeSort.Internal.splitInTwo, List.merge]
  have s2 : ([0, 10] : List Int).mergeSort (fun x y => decide (x ≤ y)) = [0, 10] := by simp [List.mergeSort, List.MergeSort.Internal.splitInTwo, List.merge]
  have e0 : ends 0 10 [(0, 4), (4, 11)] = [0, 10, 4, 4] := by decide
  have e1 : ends 0 10 [(0, 10), (0, 10)] = [0, 10] := by decide
  have h0 : hold [xC, xD] xA 0 = [1, 2] := by
    simp only [hold, sds, Bx.side, xA, xC, xD, List.map_cons, List.map_nil, cutS, srt, e0, s1]
    decide
  have h1 : hold [xC, xD] xA 1 = [3] := by
    simp only [hold, sds, Bx.side, xA, xC, xD, List.map_cons, List.map_nil, cutS, srt, e1, s2]
    decide
  have h2 : hold [xC, xD] xA 2 = [3] := by
    simp only [hold, sds, Bx.side, xA, xC, xD, List.map_cons, List.map_nil, cutS, srt, e1, s2]
    decide
  unfold covB
  rw [h0, h1, h2]
  decide
end Go.Proofs.Ytffigpkkdljaiaa
