/- Contracts: slices.Equal on lists of tokens, IsName of both. -/
import Derived.Test.YtkabmmpldanmcaaAwk
import Derived.Laws.StructEq
namespace Go.Proofs.Ytkabmmpldanmcaa
open Go.ChangeShapes Go.WideShapes Go.ChangeAt Go.RowKit
set_option linter.unusedVariables false

theorem equal_nil (w : World) : Calls Try.prog 20 #[.slice none 0 0, .slice none 0 0] w fun e w' => e = .returned (.bool true) ∧ ∃ n, w' = w.drewN n := by
  go_enter Try.func20, Try.ntmps20
  go_wp2
  refine wp_loop_rounds 1 ?_
  rw [rounds_succ]
  go_wp2
  go_ret
  exact ⟨rfl, 0, rfl⟩

/-- The slice's cells are those of the tokens. -/
def Toks (w : World) (g : Nat) (ts : List Tok) : Prop := ∀ j u, (tcells ts)[j]? = some u → w.cell? ⟨g, j, none⟩ = some u

theorem tcells_get : ∀ (ts : List Tok) (k : Nat) (h : k < ts.length) (j : Nat), j < 4 → (tcells ts)[k * 4 + j]? = (tcell ts[k])[j]?
  | [], _, h, _, _ => by simp at h
  | t :: r, 0, _, j, hj => by
    have e : tcells (t :: r) = tcell t ++ tcells r := by simp [tcells]
    rw [e, List.getElem?_append_left (by simp [tcell]; omega)]
    simp
  | t :: r, k + 1, h, j, hj => by
    have e : tcells (t :: r) = tcell t ++ tcells r := by simp [tcells]
    rw [e, List.getElem?_append_right (by simp [tcell]; omega)]
    have h4 : (tcell t).length = 4 := by simp [tcell]
    rw [h4, show (k + 1) * 4 + j - 4 = k * 4 + j by omega, tcells_get r k (by simpa using h) j hj]
    simp

theorem toks_at {w : World} {g : Nat} {ts : List Tok} (h : Toks w g ts) (k : Nat) (hk : k < ts.length) :
    w.cell? ⟨g, k * 4, none⟩ = some (.int .i64 ts[k].kind) ∧ w.cell? ⟨g, k * 4 + 1, none⟩ = some (.string ⟨ts[k].text.toArray⟩) ∧ w.cell? ⟨g, k * 4 + 2, none⟩ = some (.int .i64 ts[k].line) ∧ w.cell? ⟨g, k * 4 + 3, none⟩ = some (.int .i64 ts[k].col) :=
  ⟨h _ _ (tcells_get ts k hk 0 (by omega)), h _ _ (tcells_get ts k hk 1 (by omega)), h _ _ (tcells_get ts k hk 2 (by omega)), h _ _ (tcells_get ts k hk 3 (by omega))⟩

theorem equal_same (w : World) (g1 g2 c1 c2 : Nat) (ts : List Tok) (h1 : Toks w g1 ts) (h2 : Toks w g2 ts) (hl : ts.length ≤ 1000000) :
    Calls Try.prog 20 #[.slice (some ⟨g1, 0, none⟩) ts.length c1, .slice (some ⟨g2, 0, none⟩) ts.length c2] w fun e w' => e = .returned (.bool true) ∧ ∃ n, w' = w.drewN n := by
  have H1 := Lib.hid h1; have H2 := Lib.hid h2; clear h1 h2
  go_enter Try.func20, Try.ntmps20
  go_wp2
  go_loopw [13] (fun i wr => ∃ k : Nat, k ≤ ts.length ∧ i = .int .i64 k ∧ ∃ n, wr = w.drewN n) (fun i _ => ts.length - (intOf i).toNat)
  case atStart => exact ⟨0, by omega, rfl, 0, rfl⟩
  case round =>
    obtain ⟨k, hk, rfl, n, rfl⟩ := hrel
    by_cases hlt : k < ts.length
    · obtain ⟨a0, a1, a2, a3⟩ := toks_at H1.out k hlt
      obtain ⟨b0, b1, b2, b3⟩ := toks_at H2.out k hlt
      have x1 : (k : Int) < ts.length := by omega
      generalize ts[k] = t at *
      obtain ⟨kd, tx, ln, co⟩ := t
      dsimp only at a0 a1 a2 a3 b0 b1 b2 b3
      go_wp2
      go_quiet (fail)
      go_wp2
      go_roundw
      case rel => exact ⟨k + 1, by omega, by go_num, n + nq, rfl⟩
      case measure => simp [intOf]; omega
    · go_wp2
      go_ret
      exact ⟨rfl, n, rfl⟩

def nameB (l : List UInt8) : Bool := !l.isEmpty && ((firstL l).1 == 1) && ((firstL l).2 == l.length)

theorem firstL_one {c : UInt8} {r : List UInt8} (h : (firstL (c :: r)).1 = 1) : (97 ≤ (c.toNat : Int) ∧ (c.toNat : Int) ≤ 122) ∨ (65 ≤ (c.toNat : Int) ∧ (c.toNat : Int) ≤ 90) := by
  have e : firstL (c :: r) = firstC (cls (c.toNat : Int)) c r := rfl
  rw [e] at h
  cases hk : cls (c.toNat : Int) <;> rw [hk] at h <;> simp only [firstC] at h
  case let_ =>
    unfold cls at hk; repeat' split at hk
    all_goals first | assumption | contradiction
  all_goals first | (exact absurd h (by decide)) | (split at h <;> exact absurd h (by decide))

theorem nonempty {s : ByteArray} (h0 : 0 < s.size) : s.data.toList.isEmpty = false := by
  have hz : s.data.toList.length = s.size := by simp
  cases he : s.data.toList with
  | nil => rw [he] at hz; simp at hz; omega
  | cons c r => rfl

theorem isName_any (s : ByteArray) (w : World) (hs : s.size ≤ maxLen) : Calls Try.prog 21 #[.string s] w fun e w' => e = .returned (.bool (nameB s.data.toList)) ∧ w = w' := by
  have hm := Lib.hid hs
  have hz : s.data.toList.length = s.size := by simp
  unfold maxLen at hs
  by_cases h0 : 0 < s.size
  · have hne := nonempty h0
    obtain ⟨k, z, hkz⟩ : ∃ k z, firstL s.data.toList = (k, z) := ⟨_, _, rfl⟩
    have hb : nameB s.data.toList = ((k == 1) && ((z : Int) == (s.size : Int))) := by
      unfold nameB; rw [hne, hkz, hz]; simp only [Bool.not_false, Bool.true_and]
      congr 1; rw [Bool.eq_iff_iff]; simp; omega
    rw [hb]
    have u2 : s.toList.isEmpty = false := by rw [Lib.toList_data]; exact hne
    have HK := Lib.hid hkz; clear hb hkz hne hz
    cases hk1 : (k == 1)
    · go_enter Try.func21, Try.ntmps21
      go_wp2_with (go_at_call 35; refine (first_is _ _ k z hm.out h0 HK.out).mono ?_; rintro e w' ⟨rfl, rfl⟩)
      go_ret
      exact ⟨rfl, rfl⟩
    · have HK1 := Lib.hid (eq_of_beq hk1)
      go_enter Try.func21, Try.ntmps21
      go_wp2_with (go_at_call 35; refine (first_is _ _ k z hm.out h0 HK.out).mono ?_; rintro e w' ⟨rfl, rfl⟩)
      go_ret
      exact ⟨rfl, rfl⟩
  · have hne : s.data.toList = [] := List.length_eq_zero_iff.1 (by omega)
    have u2 : s.toList.isEmpty = true := by rw [Lib.toList_data, hne]; rfl
    have hb : nameB s.data.toList = false := by rw [hne]; rfl
    rw [hb]
    clear hb hne hz
    go_enter Try.func21, Try.ntmps21
    go_wp2
    go_ret
    exact ⟨rfl, rfl⟩

theorem risName_any (s : ByteArray) (w : World) (hs : s.size ≤ maxLen) : Calls Try.prog 22 #[.string s] w fun e w' => e = .returned (.bool (nameB s.data.toList)) ∧ w = w' := by
  have hm := Lib.hid hs
  have hz : s.data.toList.length = s.size := by simp
  unfold maxLen at hs
  by_cases h0 : 0 < s.size
  · have hne := nonempty h0
    have t0 : ((s.size : Int) == 0) = false := by rw [beq_eq_false_iff_ne]; omega
    have hd := drop_at s 0 h0
    rw [List.drop_zero] at hd
    have hq := cnt_drop wdB s 0
    rw [List.drop_zero, Nat.zero_add] at hq
    by_cases hl : (97 ≤ ((s[0].toNat : Nat) : Int) ∧ ((s[0].toNat : Nat) : Int) ≤ 122) ∨ (65 ≤ ((s[0].toNat : Nat) : Int) ∧ ((s[0].toNat : Nat) : Int) ≤ 90)
    · have hf := firstL_at s 0 h0
      rw [cls_let hl, List.drop_zero] at hf
      have tl : ltB (s[0].toNat : Int) = true := ltB_iff.2 hl
      obtain ⟨q, hqq⟩ : ∃ q, scan wdB s 0 = q := ⟨_, rfl⟩
      have hql := scan_le wdB s 0 (by omega)
      rw [hqq] at hql
      rw [← hq, hqq] at hf
      have hf2 : firstL s.data.toList = if 20 < q then (-1, 0) else (1, q) := hf
      clear hf
      by_cases h20 : 20 < s.size
      · have hb : nameB s.data.toList = false := by
          unfold nameB; rw [hf2, hz]
          by_cases h21 : 20 < q
          · rw [if_pos h21]
            simp
          · rw [if_neg h21]
            have : (q == s.size) = false := by rw [beq_eq_false_iff_ne]; omega
            rw [this]; simp
        rw [hb]
        have t1 : (20 : Int) < s.size := by omega
        clear hb hf2 hq hd hne hz
        go_enter Try.func22, Try.ntmps22
        go_wp2
        go_ret
        exact ⟨rfl, rfl⟩
      · have hb : nameB s.data.toList = ((q : Int) == (s.size : Int)) := by
          unfold nameB; rw [hf2, hz, hne]
          rw [if_neg (by omega)]
          simp only [Bool.not_false, Bool.true_and, beq_self_eq_true]
          rw [Bool.eq_iff_iff]; simp; omega
        rw [hb]
        have t1 : ¬ (20 : Int) < s.size := by omega
        have HQ := Lib.hid hqq
        clear hb hf2 hq hd hne hz hqq
        go_enter Try.func22, Try.ntmps22
        go_wp2_with (first | (go_at_call 37; refine (letter_any 37 (.inr rfl) _ _).mono ?_; rintro e w' ⟨rfl, rfl⟩) | (go_at_call 38; refine (word_is _ 0 q _ hm.out (by omega) HQ.out).mono ?_; rintro e w' ⟨rfl, rfl⟩))
        go_ret
        exact ⟨rfl, rfl⟩
    · have tl : ltB (s[0].toNat : Int) = false := ltB_no.2 hl
      have hb : nameB s.data.toList = false := by
        unfold nameB
        have : ((firstL s.data.toList).1 == 1) = false := by
          rw [beq_eq_false_iff_ne]; intro h
          rw [hd] at h
          exact hl (firstL_one h)
        rw [this]; simp
      rw [hb]
      clear hb hq hd hne hz
      by_cases h20 : 20 < s.size
      · have t1 : (20 : Int) < s.size := by omega
        go_enter Try.func22, Try.ntmps22
        go_wp2
        go_ret
        exact ⟨rfl, rfl⟩
      · have t1 : ¬ (20 : Int) < s.size := by omega
        go_enter Try.func22, Try.ntmps22
        go_wp2_with (first | (go_at_call 37; refine (letter_any 37 (.inr rfl) _ _).mono ?_; rintro e w' ⟨rfl, rfl⟩))
        go_ret
        exact ⟨rfl, rfl⟩
  · have hne : s.data.toList = [] := List.length_eq_zero_iff.1 (by omega)
    have t0 : ((s.size : Int) == 0) = true := beq_iff_eq.2 (by omega)
    have hb : nameB s.data.toList = false := by rw [hne]; rfl
    rw [hb]
    clear hb hne hz
    go_enter Try.func22, Try.ntmps22
    go_wp2
    go_ret
    exact ⟨rfl, rfl⟩
end Go.Proofs.Ytkabmmpldanmcaa
