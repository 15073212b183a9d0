/- The table of powers of ten, and the contract of Text. -/
import Derived.Test.YtbbbmlnggehcdaaDoorDi
import Derived.Lib.AppendIntMem
import Derived.Laws.IdiomStrings
import Derived.Laws.Concat
namespace Go.Proofs.YtbbbmlnggehcdaaDoor
open Go.ChangeShapes Go.WideShapes Go.ChangeAt Go.RowKit Go.Shelf
set_option linter.unusedVariables false

/-- The powers of ten are where the program lays them. -/
def Tab (w : World) : Prop := Lib.TabIs Tryd.prog w "internal/strconv.uint64pow10" .u64 Lib.pow10Tab
theorem Tab.on {w w1 : World} (h : Tab w) (hb : Below w.heap.size w w1) : Tab w1 := (Lib.tabBelow_of_tabIs h) w1 hb

theorem itoa_any (n : Int) (w : World) (h0 : -9223372036854775808 ≤ n) (h1 : n ≤ 9223372036854775807) (ht : Tab w) :
    Calls Tryd.prog 58 #[.int .i64 n] w fun e w' => e = .returned (.string ⟨(Lib.itoa n).toArray⟩) ∧ Below w.heap.size w w' :=
  (Tryd.strconv_Itoa n h0 h1 w ht).mono fun e w' h => ⟨h.1, by obtain ⟨k, os, rfl⟩ := h.2; exact Lib.below_grow _ _ (Nat.le_refl _) _ _⟩

theorem add_lists (w : World) (a b : List UInt8) (h : a.length + b.length ≤ 9223372036854775807) : (Op.stringOp .add ⟨a.toArray⟩ ⟨b.toArray⟩).run Tryd.prog w = .ok (.string ⟨(a ++ b).toArray⟩) w := by
  have h2 := run_string_add_sum (P := Tryd.prog) w ⟨a.toArray⟩ ⟨b.toArray⟩ (by simpa [ByteArray.size] using h)
  rw [h2, ByteArray.mk_append_mk]

/-- The text of a fraction. -/
def textL (n d : Int) : List UInt8 := if d = 1 then Lib.itoa n else Lib.itoa n ++ 47 :: Lib.itoa d

theorem text_bad (n d : Int) (w : World) (n1 : -9223372036854775808 ≤ n) (n2 : n ≤ 9223372036854775807) (d1 : -9223372036854775808 ≤ d) (d2 : d ≤ 9223372036854775807) (hv : vB n d = false) :
    Calls Tryd.prog 34 #[.agg #[.int .i64 n, .int .i64 d]] w fun e w' => e = .returned (.tuple #[.string ⟨#[]⟩, .int .i64 1]) ∧ Below w.heap.size w w' := by
  have hV := fun w => valid_any n d w n1 n2 d1 d2
  rw [hv] at hV
  clear hv
  go_enter Tryd.func34, Tryd.ntmps34
  go_wp2_with (first | (go_at_call 17; refine (hV _).mono ?_; rintro e w1 ⟨rfl, hb⟩))
  go_ret2
  exact ⟨rfl, belows (al1 _ _) hb⟩

theorem nDigits_le : ∀ (k u : Nat), u < 10 ^ (k + 1) → Lib.nDigits u ≤ k + 1
  | 0, u, h => by rw [Lib.nDigits, dif_pos (by omega)]; omega
  | k + 1, u, h => by
    rw [Lib.nDigits]
    split
    · omega
    · have := nDigits_le k (u / 10) (by rw [Nat.pow_succ] at h; omega)
      omega
theorem itoa_len (n : Int) (h0 : -9223372036854775808 ≤ n) (h1 : n ≤ 9223372036854775807) : (Lib.itoa n).length ≤ 20 := by
  have k : ∀ u : Nat, u ≤ 9223372036854775808 → (Lib.decDigits u).length ≤ 19 := fun u h => by
    rw [Lib.decDigits_length]; exact nDigits_le 18 u (by omega)
  unfold Lib.itoa
  split
  · have := k n.natAbs (by omega); simp only [List.length_cons]; omega
  · have := k n.toNat (by omega); omega

theorem text_ok (n d : Int) (w : World) (v : V n d) (ht : Tab w) :
    Calls Tryd.prog 34 #[.agg #[.int .i64 n, .int .i64 d]] w fun e w' => e = .returned (.tuple #[.string ⟨(textL n d).toArray⟩, .int .i64 0]) ∧ Below w.heap.size w w' := by
  obtain ⟨⟨n1, n2⟩, ⟨d1, d2⟩⟩ := V_b v
  have hV := fun w => valid_any n d w n1 n2 d1 d2
  rw [vB_t.2 v] at hV
  have l1 := itoa_len n n1 n2
  have l2 := itoa_len d d1 d2
  clear v
  by_cases hd : d = 1
  · have e : textL n d = Lib.itoa n := by unfold textL; rw [if_pos hd]
    rw [e]
    subst hd
    clear e
    generalize hI : Lib.itoa n = L at *
    go_enter Tryd.func34, Tryd.ntmps34
    go_wp2_with (first | (go_at_call 17; refine (hV _).mono ?_; rintro e w1 ⟨rfl, hb⟩; have hB := belows (al1 _ _) hb; have T1 := ht.on hB; obtain ⟨c0, c1, f0, f1⟩ := Has.two (Has.below_ (Has.new_ w 23 #[.int .i64 n, .int .i64 1]) hb (by simp))) | (go_at_call 58; refine (itoa_any n _ n1 n2 T1).mono ?_; rw [hI]; rintro e w2 ⟨rfl, hb2⟩; have hB2 := belows hB hb2; have hh : Has w2 w.heap.size 23 #[.int .i64 n, .int .i64 1] := Has.below_ (Has.below_ (Has.new_ w 23 #[.int .i64 n, .int .i64 1]) hb (by simp)) hb2 (Has.size_ (Has.below_ (Has.new_ w 23 #[.int .i64 n, .int .i64 1]) hb (by simp))); obtain ⟨c2, c3, f2, f3⟩ := Has.two hh))
    go_ret2
    exact ⟨rfl, hB2⟩
  · have e : textL n d = Lib.itoa n ++ 47 :: Lib.itoa d := by unfold textL; rw [if_neg hd]
    have hd' : (d == 1) = false := by simp [hd]
    rw [e]
    clear e
    generalize hI : Lib.itoa n = L at *
    generalize hJ : Lib.itoa d = M at *
    have s1 := fun w => add_lists w [47] M (by simp; omega)
    have s2 := fun w => add_lists w L (47 :: M) (by simp; omega)
    go_enter Tryd.func34, Tryd.ntmps34
    go_wp2_with (first | (go_at_call 17; refine (hV _).mono ?_; rintro e w1 ⟨rfl, hb⟩; have hB := belows (al1 _ _) hb; have T1 := ht.on hB; have H1 := Has.below_ (Has.new_ w 23 #[.int .i64 n, .int .i64 d]) hb (by simp); obtain ⟨c0, c1, f0, f1⟩ := Has.two H1) | (go_at_call 58; refine (itoa_any _ _ (by omega) (by omega) (by assumption)).mono ?_; (first | (rw [hI]; rintro e w2 ⟨rfl, hb2⟩; have hB2 := belows hB hb2; have T2 := T1.on hb2; have H2 := H1.below_ hb2 H1.size_; obtain ⟨c2, c3, f2, f3⟩ := Has.two H2) | (rw [hJ]; rintro e w3 ⟨rfl, hb3⟩; have hB3 := belows hB2 hb3))))
    go_ret2
    exact ⟨rfl, hB3⟩
end Go.Proofs.YtbbbmlnggehcdaaDoor
