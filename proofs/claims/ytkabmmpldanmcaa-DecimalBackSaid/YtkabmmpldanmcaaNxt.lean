/- The contract of the reference's next: what begins at a place of a string. -/
import Derived.Test.YtkabmmpldanmcaaNext
namespace Go.Proofs.Ytkabmmpldanmcaa
open Go.ChangeShapes Go.WideShapes Go.ChangeAt Go.RowKit
set_option linter.unusedVariables false

theorem firstL_at (s : ByteArray) (k : Nat) (h : k < s.size) : firstL (s.data.toList.drop k) = match cls ((s[k].toNat : Nat) : Int) with
    | .blank => (0, 1) | .hash => (0, cnt noNl (s.data.toList.drop k)) | .nl => (4, 1) | .dig => (2, numL (s.data.toList.drop k))
    | .cmp => (3, if nextEq (s.data.toList.drop (k + 1)) = true then 2 else 1) | .sym => (3, 1)
    | .let_ => if 20 < cnt wdB (s.data.toList.drop k) then (-1, 0) else (1, cnt wdB (s.data.toList.drop k)) | .bad => (-1, 0) := by
  have e := drop_at s k h
  generalize s.data.toList.drop (k + 1) = r at e
  rw [e]
  rfl

theorem nextEq_at' (s : ByteArray) (k : Nat) (h : k < s.size) : nextEq (s.data.toList.drop k) = (((s[k].toNat : Nat) : Int) == 61) := by
  rw [drop_at s k h]; rfl
theorem nextEq_no' (s : ByteArray) (k : Nat) (h : s.size ≤ k) : nextEq (s.data.toList.drop k) = false := by
  rw [List.drop_eq_nil_of_le (by simpa using h)]; rfl

def NextPost (r : Int × Nat) (k0 : Nat) (w : World) (e : Ending) (w' : World) : Prop :=
  (∃ en : Int, e = .returned (.tuple #[.int .i64 r.1, .int .i64 en]) ∧ (r.1 = -1 ∨ en = k0 + r.2)) ∧ ∃ n, w' = w.drewN n

theorem nextPost_mk {r : Int × Nat} {k0 : Nat} {w : World} {n : Nat} {a en : Int} (ha : r.1 = a) (h : r.1 = -1 ∨ en = k0 + r.2) : NextPost r k0 w (.returned (.tuple #[.int .i64 a, .int .i64 en])) (w.drewN n) :=
  ⟨⟨en, by rw [ha], h⟩, n, rfl⟩
theorem nextPost_same {r : Int × Nat} {k0 : Nat} {w : World} {a en : Int} (ha : r.1 = a) (h : r.1 = -1 ∨ en = k0 + r.2) : NextPost r k0 w (.returned (.tuple #[.int .i64 a, .int .i64 en])) w :=
  ⟨⟨en, by rw [ha], h⟩, 0, rfl⟩

theorem word_is (s : ByteArray) (k0 q : Nat) (w : World) (hs : s.size ≤ maxLen) (h1 : k0 ≤ s.size) (hq : scan wdB s k0 = q) :
    Calls Try.prog 38 #[.string s, .int .i64 k0] w fun e w' => e = .returned (.int .i64 q) ∧ w = w' := by
  have h := word_any s k0 w hs (by omega) (by omega)
  rw [Int.toNat_natCast, hq] at h; exact h
theorem figures_is (s : ByteArray) (k0 : Int) (q : Nat) (w : World) (hs : s.size ≤ maxLen) (h0 : 0 ≤ k0) (h1 : k0 ≤ s.size) (hq : scan dgB s k0.toNat = q) :
    Calls Try.prog 52 #[.string s, .int .i64 k0] w fun e w' => e = .returned (.int .i64 q) ∧ w = w' := by
  have h := figures_any s k0 w hs h0 h1
  rw [hq] at h; exact h

/-- blanks, newlines -/
theorem next_blank (s : ByteArray) (k0 : Nat) (w : World) (hs : s.size ≤ maxLen) (h0 : k0 < s.size) (hc : ((s[k0].toNat : Nat) : Int) = 32 ∨ ((s[k0].toNat : Nat) : Int) = 9 ∨ ((s[k0].toNat : Nat) : Int) = 10) :
    Calls Try.prog 36 #[.string s, .int .i64 k0] w (NextPost (firstL (s.data.toList.drop k0)) k0 w) := by
  unfold maxLen at hs
  have hf := firstL_at s k0 h0
  rcases hc with hc | hc | hc
  all_goals
    rw [hc] at hf
    have HF := Lib.hid hf; clear hf
    go_enter Try.func36, Try.ntmps36
    go_wp2_with fail
    go_ret2
    exact nextPost_same (by rw [HF.out]; rfl) (by rw [HF.out]; exact .inr rfl)

theorem next_hash (s : ByteArray) (k0 : Nat) (w : World) (hs : s.size ≤ maxLen) (h0 : k0 < s.size) (hc : ((s[k0].toNat : Nat) : Int) = 35) :
    Calls Try.prog 36 #[.string s, .int .i64 k0] w (NextPost (firstL (s.data.toList.drop k0)) k0 w) := by
  unfold maxLen at hs
  have hf := firstL_at s k0 h0
  rw [hc] at hf
  have HF := Lib.hid hf; clear hf
  go_enter Try.func36, Try.ntmps36
  go_wp2_with fail
  go_loop [1] (fun i => ∃ k : Nat, k ≤ s.size ∧ i = .int .i64 k ∧ scan noNl s k = scan noNl s k0) (fun i => s.size - (intOf i).toNat)
  case atStart => exact ⟨k0, by omega, rfl, rfl⟩
  case round =>
    clear hc
    obtain ⟨k, hk, rfl, hsc⟩ := hrel
    have HS := Lib.hid hsc; clear hsc
    by_cases hlt : k < s.size
    · cases hd : noNl (s[k].toNat : Int)
      · have hy := Lib.hid (scan_no noNl s k hlt hd)
        have hd' : (((s[k].toNat : Nat) : Int) != 10) = false := hd
        clear hd
        go_wp2_with fail
        go_ret2
        exact nextPost_same (by rw [HF.out]; rfl) (by rw [HF.out]; right; show (k : Int) = k0 + ((cnt noNl (s.data.toList.drop k0) : Nat) : Int); have e := HS.out; rw [hy.out, cnt_drop] at e; omega)
      · have hy := Lib.hid (scan_yes noNl s k hlt hd)
        have hd' : (((s[k].toNat : Nat) : Int) != 10) = true := hd
        clear hd
        go_wp2_with fail
        go_round
        case rel => exact ⟨k + 1, by omega, by go_num, by rw [← hy.out]; exact HS.out⟩
        case measure => simp [intOf]; omega
    · have hy := Lib.hid (scan_end noNl s k (by omega))
      go_wp2_with fail
      go_ret2
      exact nextPost_same (by rw [HF.out]; rfl) (by rw [HF.out]; right; show (k : Int) = k0 + ((cnt noNl (s.data.toList.drop k0) : Nat) : Int); have e := HS.out; rw [hy.out, cnt_drop] at e; omega)

theorem next_let (s : ByteArray) (k0 : Nat) (w : World) (hs : s.size ≤ maxLen) (h0 : k0 < s.size) (hc : (97 ≤ ((s[k0].toNat : Nat) : Int) ∧ ((s[k0].toNat : Nat) : Int) ≤ 122) ∨ (65 ≤ ((s[k0].toNat : Nat) : Int) ∧ ((s[k0].toNat : Nat) : Int) ≤ 90)) :
    Calls Try.prog 36 #[.string s, .int .i64 k0] w (NextPost (firstL (s.data.toList.drop k0)) k0 w) := by
  have hm := Lib.hid hs
  unfold maxLen at hs
  have hf := firstL_at s k0 h0
  rw [cls_let hc] at hf
  obtain ⟨q, hq⟩ : ∃ q, scan wdB s k0 = q := ⟨_, rfl⟩
  have hb := scan_le wdB s k0 (by omega)
  rw [hq] at hb
  have hcq : cnt wdB (s.data.toList.drop k0) = q - k0 := by rw [cnt_drop] at hq; omega
  rw [hcq] at hf
  have t0 : ltB (s[k0].toNat : Int) = true := ltB_iff.2 hc
  have n1 : (((s[k0].toNat : Nat) : Int) == 32) = false := by rw [beq_eq_false_iff_ne]; omega
  have n2 : (((s[k0].toNat : Nat) : Int) == 9) = false := by rw [beq_eq_false_iff_ne]; omega
  have HF := Lib.hid hf; have HQ := Lib.hid hq; clear hf hq hcq
  by_cases h20 : 20 < q - k0
  · have hf2 : firstL (s.data.toList.drop k0) = (-1, 0) := by rw [HF.out]; exact if_pos h20
    have HF2 := Lib.hid hf2; clear hf2
    rcases hc with hc | hc
    all_goals
      go_enter Try.func36, Try.ntmps36
      go_wp2_with (first | (go_at_call 37; refine (letter_any 37 (.inr rfl) _ _).mono ?_; rintro e w' ⟨rfl, rfl⟩) | (go_at_call 38; refine (word_is _ _ q _ hm.out (by omega) HQ.out).mono ?_; rintro e w' ⟨rfl, rfl⟩))
      go_ret2
      exact nextPost_same (by rw [HF2.out]) (by rw [HF2.out]; exact .inl rfl)
  · have hf2 : firstL (s.data.toList.drop k0) = (1, q - k0) := by rw [HF.out]; exact if_neg h20
    have HF2 := Lib.hid hf2; clear hf2
    rcases hc with hc | hc
    all_goals
      go_enter Try.func36, Try.ntmps36
      go_wp2_with (first | (go_at_call 37; refine (letter_any 37 (.inr rfl) _ _).mono ?_; rintro e w' ⟨rfl, rfl⟩) | (go_at_call 38; refine (word_is _ _ q _ hm.out (by omega) HQ.out).mono ?_; rintro e w' ⟨rfl, rfl⟩))
      go_ret2
      exact nextPost_same (by rw [HF2.out]) (by rw [HF2.out]; right; show (q : Int) = k0 + ((q - k0 : Nat) : Int); omega)

theorem nextPost_draw {r : Int × Nat} {k0 : Nat} {w w' : World} {n : Nat} {e : Ending} (h : NextPost r k0 w e w') : NextPost r k0 w e (w'.drewN n) := by
  obtain ⟨h1, m, rfl⟩ := h; exact ⟨h1, m + n, World.drewN_drewN ..⟩

set_option maxHeartbeats 1000000 in
theorem next_dig (s : ByteArray) (k0 : Nat) (w : World) (hs : s.size ≤ maxLen) (hsm : s.size ≤ 1000000000) (h0 : k0 < s.size) (c1 : 48 ≤ ((s[k0].toNat : Nat) : Int)) (c2 : ((s[k0].toNat : Nat) : Int) ≤ 57) :
    Calls Try.prog 36 #[.string s, .int .i64 k0] w (NextPost (firstL (s.data.toList.drop k0)) k0 w) := by
  have hm := Lib.hid hs
  unfold maxLen at hs
  have hf := firstL_at s k0 h0
  rw [cls_dig c1 c2] at hf
  obtain ⟨d, hd⟩ : ∃ d, scan dgB s k0 = d := ⟨_, rfl⟩
  have hb := scan_le dgB s k0 (by omega)
  rw [hd] at hb
  have HF := Lib.hid hf; have HD := Lib.hid hd; clear hf hd
  have tl : ltB (s[k0].toNat : Int) = false := ltB_no.2 (by omega)
  have n1 : (((s[k0].toNat : Nat) : Int) == 32) = false := by rw [beq_eq_false_iff_ne]; omega
  have n2 : (((s[k0].toNat : Nat) : Int) == 9) = false := by rw [beq_eq_false_iff_ne]; omega
  have td : dgB (s[k0].toNat : Int) = true := dgB_iff.2 ⟨c1, c2⟩
  have fin : ∀ q : Nat, k0 + numL (s.data.toList.drop k0) = q → NextPost (firstL (s.data.toList.drop k0)) k0 w (.returned (.tuple #[.int .i64 2, .int .i64 q])) w := fun q hq =>
    nextPost_same (by rw [HF.out]) (by rw [HF.out]; right; show (q : Int) = k0 + ((numL (s.data.toList.drop k0) : Nat) : Int); omega)
  have FIN := Lib.hid fin; clear fin
  by_cases h1 : d + 1 < s.size
  · by_cases hp : ((s[d].toNat : Nat) : Int) = 46
    · have t1 : (((s[d].toNat : Nat) : Int) == 46) = true := by simpa using hp
      have HP := Lib.hid hp; clear hp
      cases hg : dgB ((s[d + 1].toNat : Nat) : Int)
      · have e := scan_no dgB s (d + 1) h1 hg
        have E := Lib.hid e; clear e
        go_enter Try.func36, Try.ntmps36
        go_wp2_with (first | (go_at_call 37; refine (letter_any 37 (.inr rfl) _ _).mono ?_; rintro e w' ⟨rfl, rfl⟩) | (go_at_call 34; refine (digit_any 34 (.inr rfl) _ _).mono ?_; rintro e w' ⟨rfl, rfl⟩) | (go_at_call 52; refine (figures_is _ _ d _ hm.out (by omega) (by omega) (by rw [Int.toNat_natCast]; exact HD.out)).mono ?_; rintro e w' ⟨rfl, rfl⟩))
        go_ret2
        exact FIN.out d (numL_plain' s k0 d HD.out (by omega) (.inr (.inr E.out)))
      · have e := scan_yes dgB s (d + 1) h1 hg
        obtain ⟨q, hq⟩ : ∃ q, scan dgB s (d + 1) = q := ⟨_, rfl⟩
        have hq2 := scan_le dgB s (d + 1 + 1) (by omega)
        rw [← e, hq] at hq2
        have HQ := Lib.hid hq; clear e hq
        go_enter Try.func36, Try.ntmps36
        go_wp2_with (first | (go_at_call 37; refine (letter_any 37 (.inr rfl) _ _).mono ?_; rintro e w' ⟨rfl, rfl⟩) | (go_at_call 34; refine (digit_any 34 (.inr rfl) _ _).mono ?_; rintro e w' ⟨rfl, rfl⟩) | (go_at_call 52; fail))
        refine (figures_is _ _ d _ hm.out (by omega) (by omega) (by rw [Int.toNat_natCast]; exact HD.out)).mono ?_; rintro e w' ⟨rfl, rfl⟩
        go_wp2_with (first | (go_at_call 34; refine (digit_any 34 (.inr rfl) _ _).mono ?_; rintro e w' ⟨rfl, rfl⟩) | fail)
        refine (figures_is _ ((d : Int) + 1) q _ hm.out (by omega) (by omega) (by rw [show ((d : Int) + 1).toNat = d + 1 by omega]; exact HQ.out)).mono ?_; rintro e w' ⟨rfl, rfl⟩
        go_wp2_with fail
        go_ret2
        exact FIN.out q (numL_point' s k0 d q HD.out (by omega) HP.out HQ.out (by omega))
    · have t1 : (((s[d].toNat : Nat) : Int) == 46) = false := by simpa using hp
      have HP := Lib.hid hp; clear hp
      go_enter Try.func36, Try.ntmps36
      go_wp2_with (first | (go_at_call 37; refine (letter_any 37 (.inr rfl) _ _).mono ?_; rintro e w' ⟨rfl, rfl⟩) | (go_at_call 34; refine (digit_any 34 (.inr rfl) _ _).mono ?_; rintro e w' ⟨rfl, rfl⟩) | (go_at_call 52; refine (figures_is _ _ d _ hm.out (by omega) (by omega) (by rw [Int.toNat_natCast]; exact HD.out)).mono ?_; rintro e w' ⟨rfl, rfl⟩))
      go_ret2
      exact FIN.out d (numL_plain' s k0 d HD.out (by omega) (.inl HP.out))
  · go_enter Try.func36, Try.ntmps36
    go_wp2_with (first | (go_at_call 37; refine (letter_any 37 (.inr rfl) _ _).mono ?_; rintro e w' ⟨rfl, rfl⟩) | (go_at_call 34; refine (digit_any 34 (.inr rfl) _ _).mono ?_; rintro e w' ⟨rfl, rfl⟩) | (go_at_call 52; refine (figures_is _ _ d _ hm.out (by omega) (by omega) (by rw [Int.toNat_natCast]; exact HD.out)).mono ?_; rintro e w' ⟨rfl, rfl⟩))
    go_ret2
    refine FIN.out d ?_
    by_cases h2 : d < s.size
    · exact numL_plain' s k0 d HD.out h2 (.inr (.inl (by omega)))
    · exact numL_end' s k0 d HD.out (by omega)

theorem mem_alone_sym {c : Int} (h : c ∈ aloneL) (h1 : c ≠ 62) (h2 : c ≠ 60) (h3 : c ≠ 58) : cls c = .sym := by
  simp only [aloneL, List.mem_cons, List.not_mem_nil, or_false] at h
  rcases h with rfl | rfl | rfl | rfl | rfl | rfl | rfl | rfl | rfl | rfl | rfl | rfl <;> first | rfl | contradiction

/-- The walk to Symbol's answer, for bytes that are no blank, newline, comment, letter or digit. -/
theorem next_sym (s : ByteArray) (k0 : Nat) (w : World) (v : Nat) (hs : s.size ≤ maxLen) (h0 : k0 < s.size) (hv : v = 1 ∨ v = 2) (hkv : k0 + v ≤ s.size)
    (hF : (firstL (s.data.toList.drop k0)) = (3, v))
    (tl : ltB ((s[k0].toNat : Nat) : Int) = false) (td : dgB ((s[k0].toNat : Nat) : Int) = false) (n1 : (((s[k0].toNat : Nat) : Int) == 32) = false) (n2 : (((s[k0].toNat : Nat) : Int) == 9) = false) (n3 : (((s[k0].toNat : Nat) : Int) == 10) = false) (n4 : (((s[k0].toNat : Nat) : Int) == 35) = false)
    (hS : ∀ W : World, Calls Try.prog 53 #[.string s, .int .i64 k0] W fun e w' => e = .returned (.int .i64 v) ∧ ∃ n, w' = W.drewN n) :
    Calls Try.prog 36 #[.string s, .int .i64 k0] w (NextPost (firstL (s.data.toList.drop k0)) k0 w) := by
  unfold maxLen at hs
  have HF := Lib.hid hF; have HS := Lib.hid hS; clear hF hS
  have hv0 : (0 : Int) < v := by omega
  have hv2 : (v : Int) ≤ 2 := by omega
  clear hv
  go_enter Try.func36, Try.ntmps36
  go_wp2_with (first | (go_at_call 37; refine (letter_any 37 (.inr rfl) _ _).mono ?_; rintro e w' ⟨rfl, rfl⟩) | (go_at_call 34; refine (digit_any 34 (.inr rfl) _ _).mono ?_; rintro e w' ⟨rfl, rfl⟩) | (go_at_call 53; refine (HS.out _).mono ?_; rintro e w' ⟨rfl, n, rfl⟩))
  go_ret2
  exact nextPost_mk (by rw [HF.out]) (by rw [HF.out]; exact .inr rfl)

theorem next_bad (s : ByteArray) (k0 : Nat) (w : World) (hs : s.size ≤ maxLen) (h0 : k0 < s.size)
    (hF : (firstL (s.data.toList.drop k0)) = (-1, 0))
    (tl : ltB ((s[k0].toNat : Nat) : Int) = false) (td : dgB ((s[k0].toNat : Nat) : Int) = false) (n1 : (((s[k0].toNat : Nat) : Int) == 32) = false) (n2 : (((s[k0].toNat : Nat) : Int) == 9) = false) (n3 : (((s[k0].toNat : Nat) : Int) == 10) = false) (n4 : (((s[k0].toNat : Nat) : Int) == 35) = false)
    (hS : ∀ W : World, Calls Try.prog 53 #[.string s, .int .i64 k0] W fun e w' => e = .returned (.int .i64 0) ∧ ∃ n, w' = W.drewN n) :
    Calls Try.prog 36 #[.string s, .int .i64 k0] w (NextPost (firstL (s.data.toList.drop k0)) k0 w) := by
  unfold maxLen at hs
  have HF := Lib.hid hF; have HS := Lib.hid hS; clear hF hS
  go_enter Try.func36, Try.ntmps36
  go_wp2_with (first | (go_at_call 37; refine (letter_any 37 (.inr rfl) _ _).mono ?_; rintro e w' ⟨rfl, rfl⟩) | (go_at_call 34; refine (digit_any 34 (.inr rfl) _ _).mono ?_; rintro e w' ⟨rfl, rfl⟩) | (go_at_call 53; refine (HS.out _).mono ?_; rintro e w' ⟨rfl, n, rfl⟩))
  go_ret2
  exact nextPost_mk (by rw [HF.out]) (by rw [HF.out]; exact .inl rfl)

/-- Symbol's answer at any place. -/
theorem symbol_any (s : ByteArray) (k0 : Nat) (hs : s.size ≤ maxLen) (h0 : k0 < s.size) (w : World) :
    Calls Try.prog 53 #[.string s, .int .i64 k0] w fun e w' => e = .returned (.int .i64 (if (((s[k0].toNat : Nat) : Int) = 62 ∨ ((s[k0].toNat : Nat) : Int) = 60 ∨ ((s[k0].toNat : Nat) : Int) = 58) ∧ nextEq (s.data.toList.drop (k0 + 1)) = true then 2 else if ((s[k0].toNat : Nat) : Int) ∈ aloneL then 1 else 0)) ∧ ∃ n, w' = w.drewN n := by
  obtain ⟨c, hc⟩ : ∃ c : Int, ((s[k0].toNat : Nat) : Int) = c := ⟨_, rfl⟩
  have HC := Lib.hid hc
  by_cases h1 : k0 + 1 < s.size
  · have hn := nextEq_at' s (k0 + 1) h1
    cases ht : (((s[k0 + 1].toNat : Nat) : Int) == 61)
    · rw [hn, ht, if_neg (by simp), hc]
      exact symbol_other s k0 w c hs h0 HC h1 ht
    · by_cases hcc : ((s[k0].toNat : Nat) : Int) = 62 ∨ ((s[k0].toNat : Nat) : Int) = 60 ∨ ((s[k0].toNat : Nat) : Int) = 58
      · rw [if_pos ⟨hcc, by rw [hn, ht]⟩]
        exact (symbol_two s k0 w hs h1 (eq_of_beq ht) hcc).mono fun e w' ⟨he, hw⟩ => ⟨he, 0, by rw [← hw]; rfl⟩
      · rw [if_neg (fun h => hcc h.1), hc]
        exact symbol_lone s k0 w c hs h0 HC h1 ht (by rw [beq_eq_false_iff_ne]; exact fun e => hcc (.inl e)) (by rw [beq_eq_false_iff_ne]; exact fun e => hcc (.inr (.inl e))) (by rw [beq_eq_false_iff_ne]; exact fun e => hcc (.inr (.inr e)))
  · rw [nextEq_no' s (k0 + 1) (by omega), if_neg (by simp), hc]
    exact symbol_end s k0 w c hs h0 HC (by omega)

theorem nextEq_lt {s : ByteArray} {k0 : Nat} (hq : nextEq (s.data.toList.drop (k0 + 1)) = true) : k0 + 2 ≤ s.size := by
  rcases Nat.lt_or_ge (k0 + 1) s.size with h | h
  · omega
  · rw [nextEq_no' s (k0 + 1) h] at hq; cases hq

theorem next_any (s : ByteArray) (k0 : Nat) (w : World) (hs : s.size ≤ maxLen) (hsm : s.size ≤ 1000000000) (h0 : k0 < s.size) :
    Calls Try.prog 36 #[.string s, .int .i64 k0] w (NextPost (firstL (s.data.toList.drop k0)) k0 w) := by
  have hf := firstL_at s k0 h0
  have hsym := symbol_any s k0 hs h0
  obtain ⟨c, hc⟩ : ∃ c : Int, ((s[k0].toNat : Nat) : Int) = c := ⟨_, rfl⟩
  by_cases b1 : c = 32 ∨ c = 9 ∨ c = 10
  · exact next_blank s k0 w hs h0 (by rw [hc]; exact b1)
  by_cases b2 : c = 35
  · exact next_hash s k0 w hs h0 (by rw [hc]; exact b2)
  by_cases b3 : (97 ≤ c ∧ c ≤ 122) ∨ (65 ≤ c ∧ c ≤ 90)
  · exact next_let s k0 w hs h0 (by rw [hc]; exact b3)
  by_cases b4 : 48 ≤ c ∧ c ≤ 57
  · exact next_dig s k0 w hs hsm h0 (by rw [hc]; exact b4.1) (by rw [hc]; exact b4.2)
  have tl : ltB ((s[k0].toNat : Nat) : Int) = false := by rw [hc]; exact ltB_no.2 b3
  have td : dgB ((s[k0].toNat : Nat) : Int) = false := by rw [hc]; exact dgB_no.2 b4
  have n1 : (((s[k0].toNat : Nat) : Int) == 32) = false := by rw [hc, beq_eq_false_iff_ne]; omega
  have n2 : (((s[k0].toNat : Nat) : Int) == 9) = false := by rw [hc, beq_eq_false_iff_ne]; omega
  have n3 : (((s[k0].toNat : Nat) : Int) == 10) = false := by rw [hc, beq_eq_false_iff_ne]; omega
  have n4 : (((s[k0].toNat : Nat) : Int) == 35) = false := by rw [hc, beq_eq_false_iff_ne]; omega
  rw [hc] at hf hsym
  by_cases b5 : c = 62 ∨ c = 60 ∨ c = 58
  · have hcl : cls c = .cmp := by rcases b5 with rfl | rfl | rfl <;> rfl
    rw [hcl] at hf
    by_cases hq : nextEq (s.data.toList.drop (k0 + 1)) = true
    · exact next_sym s k0 w 2 hs h0 (.inr rfl) (nextEq_lt hq) (by rw [hf]; simp only [hq, if_true]) tl td n1 n2 n3 n4 (fun W => by have h := hsym W; rw [if_pos ⟨b5, hq⟩] at h; exact h)
    · have hm : c ∈ aloneL := by rcases b5 with rfl | rfl | rfl <;> decide
      exact next_sym s k0 w 1 hs h0 (.inl rfl) (by omega) (by rw [hf]; simp only [if_neg hq]) tl td n1 n2 n3 n4 (fun W => by have h := hsym W; rw [if_neg (fun x => hq x.2), if_pos hm] at h; exact h)
  · by_cases hm : c ∈ aloneL
    · have hcl := mem_alone_sym hm (fun e => b5 (.inl e)) (fun e => b5 (.inr (.inl e))) (fun e => b5 (.inr (.inr e)))
      rw [hcl] at hf
      exact next_sym s k0 w 1 hs h0 (.inl rfl) (by omega) hf tl td n1 n2 n3 n4 (fun W => by have h := hsym W; rw [if_neg (fun x => b5 x.1), if_pos hm] at h; exact h)
    · have hcl : cls c = .bad := by
        unfold cls
        rw [if_neg (by omega), if_neg b2, if_neg (by omega), if_neg b4, if_neg b5, if_neg, if_neg b3]
        intro h; apply hm
        rcases h with rfl | rfl | rfl | rfl | rfl | rfl | rfl | rfl | rfl <;> decide
      rw [hcl] at hf
      exact next_bad s k0 w hs h0 hf tl td n1 n2 n3 n4 (fun W => by have h := hsym W; rw [if_neg (fun x => b5 x.1), if_neg hm] at h; exact h)
end Go.Proofs.Ytkabmmpldanmcaa
