/- Contracts of the small number functions of package decimal and of the reference: whether a number is in range, and rounding. No conditions but that the arguments fit their kinds. Rounding: the contract of decimal.Round and of the reference's Round. Plain facts on bytes: scanning a string while a test holds. Nothing of the program. Contracts of the functions that scan a string: of package decimal and of the reference. What a text begins with, as plain functions on lists of bytes: the kind of a token, and its size. Nothing of the program. Contracts: what a text begins with (numberSize, commentSize, first). The contract of strings.IndexByte of the shelf, laid at this program. Contracts: what a text begins with (commentSize, first). IsName of both. -/
import Derived.Test.YtkgaahmehmbfjaaRows
import Derived.WalkKit
import Derived.ProofKit
import Derived.OpenShut
import Derived.Deep.QuietTactic
import Derived.BigQuiet
import Derived.Outline
import Derived.IntWalk
import Derived.Lib.Hide
import Derived.WalkSpells
import Derived.WalkLawsBesides
import Derived.Lib.Strings
import Derived.Lib.IndexBytes
import Derived.Shelf.Small.Strs
import Derived.Test.YtkgaahmehmbfjaaProg
import Derived.Lib.IndexLaws
namespace Go.Proofs.Ytkgaahmehmbfjaa.Dec
open Go.ChangeShapes Go.WideShapes Go.ChangeAt Go.RowKit

def numB (n : Int) : Bool := decide (-1152921504606846976 ≤ n ∧ n ≤ 1152921504606846976)
def plB (n : Int) : Bool := decide (0 ≤ n ∧ n ≤ 9)
theorem numB_iff {n : Int} : numB n = true ↔ (-1152921504606846976 ≤ n ∧ n ≤ 1152921504606846976) := by unfold numB; simp
theorem plB_iff {n : Int} : plB n = true ↔ (0 ≤ n ∧ n ≤ 9) := by unfold plB; simp

/-- The multiple to which n rounds. -/
def rnd (n u : Int) : Int := (2 * n + u) / (2 * u)

theorem tdiv_lo (n u : Int) (hu : 1 ≤ u) : n.tdiv u * u + n.tmod u = n ∧ (-u < n.tmod u ∧ n.tmod u < u) := by
  have h1 := Int.tdiv_mul_add_tmod n u
  have h2 := Int.tmod_lt_of_pos n (show 0 < u by omega)
  have h3 := Int.lt_tmod_of_pos n (show 0 < u by omega)
  exact ⟨h1, h3, h2⟩

theorem rnd_eq (n u m : Int) (hu : 1 ≤ u) (h1 : -u ≤ 2 * (n - m * u)) (h2 : 2 * (n - m * u) < u) : rnd n u = m := by
  unfold rnd
  have e : 2 * n + u = (2 * (n - m * u) + u) + m * (2 * u) := by
    rw [Int.mul_sub, show m * (2 * u) = 2 * (m * u) by rw [Int.mul_left_comm]]; omega
  rw [e, Int.add_mul_ediv_right _ _ (by omega), Int.ediv_eq_zero_of_lt (by omega) (by omega)]; omega

end Go.Proofs.Ytkgaahmehmbfjaa.Dec
namespace Go.Proofs.Ytkgaahmehmbfjaa.Dec
open Go.ChangeShapes Go.WideShapes Go.ChangeAt Go.RowKit
set_option linter.unusedVariables false

theorem tdiv_bd (n u : Int) (hu : 1 ≤ u) (h1 : -1152921504606846976 ≤ n) (h2 : n ≤ 1152921504606846976) : -1152921504606846976 ≤ n.tdiv u ∧ n.tdiv u ≤ 1152921504606846976 := by
  have h := Int.natAbs_tdiv_le_natAbs n u
  omega

def farB (n : Int) : Bool := decide (n < -288230376151711744 ∨ 288230376151711744 < n)
theorem ret_one {k : IntKind} {a b : Int} (h : a = b) : Ending.returned (.int k a) = .returned (.int k b) := by rw [h]
theorem ret_pair {k k' : IntKind} {a b c : Int} (h : a = b) : Ending.returned (.tuple #[.int k a, .int k' c]) = .returned (.tuple #[.int k b, .int k' c]) := by rw [h]
theorem rnd_of {n u m x : Int} (hu : 1 ≤ u) (e : n.tdiv u * u + n.tmod u = n) (hm : m = n.tdiv u + x) (h1 : -u ≤ 2 * (n.tmod u - x * u)) (h2 : 2 * (n.tmod u - x * u) < u) : m = rnd n u := by
  refine (rnd_eq n u m hu ?_ ?_).symm <;> rw [hm, Int.add_mul] <;> omega

end Go.Proofs.Ytkgaahmehmbfjaa.Dec
namespace Go.Proofs.Ytkgaahmehmbfjaa.Dec

def dgB (c : Int) : Bool := decide (48 ≤ c ∧ c ≤ 57)
def ltB (c : Int) : Bool := decide ((97 ≤ c ∧ c ≤ 122) ∨ (65 ≤ c ∧ c ≤ 90))
def wdB (c : Int) : Bool := ltB c || dgB c || c == 95
def noNl (c : Int) : Bool := c != 10
theorem dgB_iff {c : Int} : dgB c = true ↔ 48 ≤ c ∧ c ≤ 57 := by unfold dgB; simp
theorem dgB_no {c : Int} : dgB c = false ↔ ¬ (48 ≤ c ∧ c ≤ 57) := by unfold dgB; simp
theorem ltB_iff {c : Int} : ltB c = true ↔ (97 ≤ c ∧ c ≤ 122) ∨ (65 ≤ c ∧ c ≤ 90) := by unfold ltB; simp
theorem ltB_no {c : Int} : ltB c = false ↔ ¬ ((97 ≤ c ∧ c ≤ 122) ∨ (65 ≤ c ∧ c ≤ 90)) := by
  rw [← Bool.not_eq_true, ltB_iff]

/-- How many bytes at the head of a list meet a test. -/
def cnt (p : Int → Bool) : List UInt8 → Nat
  | [] => 0
  | c :: r => if p (c.toNat : Int) = true then cnt p r + 1 else 0

theorem cnt_le (p : Int → Bool) : ∀ l : List UInt8, cnt p l ≤ l.length
  | [] => by simp [cnt]
  | c :: r => by have := cnt_le p r; unfold cnt; split <;> simp <;> omega

theorem cnt_get (p : Int → Bool) : ∀ (l : List UInt8) (j : Nat) (h : j < l.length), j < cnt p l → p ((l[j]).toNat : Int) = true
  | [], _, h, _ => by simp at h
  | c :: r, j, h, hj => by
    unfold cnt at hj
    split at hj
    · rename_i hp
      cases j with
      | zero => simpa using hp
      | succ j => simpa using cnt_get p r j (by simpa using h) (by omega)
    · omega

theorem cnt_stop (p : Int → Bool) : ∀ (l : List UInt8) (h : cnt p l < l.length), p ((l[cnt p l]).toNat : Int) = false
  | [], h => by simp at h
  | c :: r, h => by
    by_cases hp : p (c.toNat : Int) = true
    · have e : cnt p (c :: r) = cnt p r + 1 := by rw [cnt, if_pos hp]
      have h' : cnt p r < r.length := by rw [e] at h; simpa using h
      have := cnt_stop p r h'
      simp only [e]
      simpa using this
    · have e : cnt p (c :: r) = 0 := by rw [cnt, if_neg hp]
      simp only [e]
      simpa using hp

/-- The first place from k on at which a byte does not meet the test (or the end). -/
def scan (p : Int → Bool) (s : ByteArray) (k : Nat) : Nat := k + cnt p (s.data.toList.drop k)

theorem drop_at (s : ByteArray) (k : Nat) (h : k < s.size) : s.data.toList.drop k = s[k] :: s.data.toList.drop (k + 1) := by
  have h' : k < s.data.toList.length := by simpa using h
  rw [List.drop_eq_getElem_cons h']; rfl

theorem scan_yes (p : Int → Bool) (s : ByteArray) (k : Nat) (h : k < s.size) (hp : p (s[k].toNat : Int) = true) : scan p s k = scan p s (k + 1) := by
  unfold scan; rw [drop_at s k h, cnt, if_pos hp]; omega

theorem scan_no (p : Int → Bool) (s : ByteArray) (k : Nat) (h : k < s.size) (hp : p (s[k].toNat : Int) = false) : scan p s k = k := by
  unfold scan; rw [drop_at s k h, cnt, if_neg (by simp [hp])]; omega

theorem scan_end (p : Int → Bool) (s : ByteArray) (k : Nat) (h : s.size ≤ k) : scan p s k = k := by
  unfold scan; rw [List.drop_eq_nil_of_le (by simpa using h)]; rfl

theorem scan_le (p : Int → Bool) (s : ByteArray) (k : Nat) (h : k ≤ s.size) : k ≤ scan p s k ∧ scan p s k ≤ s.size := by
  have := cnt_le p (s.data.toList.drop k)
  unfold scan
  simp at this
  constructor
  · omega
  · have h2 : s.data.size = s.size := rfl
    omega
end Go.Proofs.Ytkgaahmehmbfjaa.Dec
namespace Go.Proofs.Ytkgaahmehmbfjaa.Dec
open Go.ChangeShapes Go.WideShapes Go.ChangeAt Go.RowKit
set_option linter.unusedVariables false

theorem digit_yes (f : FuncId) (hf : f = 117 ∨ f = 102) (c : Int) (w : World) (h1 : 48 ≤ c) (h2 : c ≤ 57) : Calls Try.prog f #[.int .u8 c] w fun e w' => e = .returned (.bool true) ∧ w = w' := by
  rcases hf with rfl | rfl
  · go_enter Try.func117, Try.ntmps117
    go_wp2
    go_ret
    exact ⟨rfl, rfl⟩
  · go_enter Try.func102, Try.ntmps102
    go_wp2
    go_ret
    exact ⟨rfl, rfl⟩
theorem digit_no (f : FuncId) (hf : f = 117 ∨ f = 102) (c : Int) (w : World) (h : ¬ (48 ≤ c ∧ c ≤ 57)) : Calls Try.prog f #[.int .u8 c] w fun e w' => e = .returned (.bool false) ∧ w = w' := by
  by_cases h1 : 48 ≤ c
  · have h2 : ¬ c ≤ 57 := fun h2 => h ⟨h1, h2⟩
    clear h
    rcases hf with rfl | rfl
    · go_enter Try.func117, Try.ntmps117
      go_wp2
      go_ret
      exact ⟨rfl, rfl⟩
    · go_enter Try.func102, Try.ntmps102
      go_wp2
      go_ret
      exact ⟨rfl, rfl⟩
  · clear h
    rcases hf with rfl | rfl
    · go_enter Try.func117, Try.ntmps117
      go_wp2
      go_ret
      exact ⟨rfl, rfl⟩
    · go_enter Try.func102, Try.ntmps102
      go_wp2
      go_ret
      exact ⟨rfl, rfl⟩
theorem digit_any (f : FuncId) (hf : f = 117 ∨ f = 102) (c : Int) (w : World) : Calls Try.prog f #[.int .u8 c] w fun e w' => e = .returned (.bool (dgB c)) ∧ w = w' := by
  by_cases h : 48 ≤ c ∧ c ≤ 57
  · rw [dgB_iff.2 h]; exact digit_yes f hf c w h.1 h.2
  · rw [dgB_no.2 h]; exact digit_no f hf c w h

theorem letter_any (f : FuncId) (hf : f = 116 ∨ f = 76) (c : Int) (w : World) : Calls Try.prog f #[.int .u8 c] w fun e w' => e = .returned (.bool (ltB c)) ∧ w = w' := by
  have hc : (97 ≤ c ∧ c ≤ 122) ∨ (65 ≤ c ∧ c ≤ 90) ∨ (c < 65) ∨ (90 < c ∧ c < 97) ∨ 122 < c := by omega
  rcases hc with h | h | h | h | h
  · rw [ltB_iff.2 (.inl h)]
    rcases hf with rfl | rfl
    · go_enter Try.func116, Try.ntmps116
      go_wp2
      go_ret
      exact ⟨rfl, rfl⟩
    · go_enter Try.func76, Try.ntmps76
      go_wp2
      go_ret
      exact ⟨rfl, rfl⟩
  · rw [ltB_iff.2 (.inr h)]
    have h3 : ¬ 97 ≤ c := by omega
    rcases hf with rfl | rfl
    · go_enter Try.func116, Try.ntmps116
      go_wp2
      go_ret
      exact ⟨rfl, rfl⟩
    · go_enter Try.func76, Try.ntmps76
      go_wp2
      go_ret
      exact ⟨rfl, rfl⟩
  · rw [ltB_no.2 (by omega)]
    have h3 : ¬ 97 ≤ c := by omega
    have h4 : ¬ 65 ≤ c := by omega
    rcases hf with rfl | rfl
    · go_enter Try.func116, Try.ntmps116
      go_wp2
      go_ret
      exact ⟨rfl, rfl⟩
    · go_enter Try.func76, Try.ntmps76
      go_wp2
      go_ret
      exact ⟨rfl, rfl⟩
  · rw [ltB_no.2 (by omega)]
    have h3 : ¬ 97 ≤ c := by omega
    have h4 : (65 : Int) ≤ c := by omega
    have h5 : decide (c ≤ 90) = false := by simp; omega
    rcases hf with rfl | rfl
    · go_enter Try.func116, Try.ntmps116
      go_wp2
      go_ret
      exact ⟨rfl, rfl⟩
    · go_enter Try.func76, Try.ntmps76
      go_wp2
      go_ret
      exact ⟨rfl, rfl⟩
  · rw [ltB_no.2 (by omega)]
    have h3 : (97 : Int) ≤ c := by omega
    have h4 : (65 : Int) ≤ c := by omega
    have h5 : decide (c ≤ 90) = false := by simp; omega
    have h6 : decide (c ≤ 122) = false := by simp; omega
    rcases hf with rfl | rfl
    · go_enter Try.func116, Try.ntmps116
      go_wp2
      go_ret
      exact ⟨rfl, rfl⟩
    · go_enter Try.func76, Try.ntmps76
      go_wp2
      go_ret
      exact ⟨rfl, rfl⟩

theorem digitsSize_any (s : ByteArray) (w : World) (hs : s.size ≤ maxLen) :
    Calls Try.prog 115 #[.string s] w fun e w' => e = .returned (.int .i64 (scan dgB s 0)) ∧ w = w' := by
  unfold maxLen at hs
  go_enter Try.func115, Try.ntmps115
  go_wp2
  go_loop [3] (fun i => ∃ k : Nat, k ≤ s.size ∧ i = .int .i64 k ∧ scan dgB s k = scan dgB s 0) (fun i => s.size - (intOf i).toNat)
  case atStart => exact ⟨0, Nat.zero_le _, rfl, rfl⟩
  case round =>
    obtain ⟨k, hk, rfl, hsc⟩ := hrel
    have HS := Lib.hid hsc; clear hsc
    by_cases hlt : k < s.size
    · by_cases hd : dgB (s[k].toNat : Int) = true
      · have hy := Lib.hid (scan_yes dgB s k hlt hd)
        go_wp2_with (go_at_call 117; refine (digit_any 117 (.inl rfl) _ _).mono ?_; rintro e w' ⟨rfl, rfl⟩)
        go_round
        case rel => exact ⟨k + 1, by omega, by go_num, by rw [← hy.out]; exact HS.out⟩
        case measure => simp [intOf]; omega
      · have hd' : dgB (s[k].toNat : Int) = false := by simpa using hd
        have hy := Lib.hid (scan_no dgB s k hlt hd')
        clear hd
        go_wp2_with (go_at_call 117; refine (digit_any 117 (.inl rfl) _ _).mono ?_; rintro e w' ⟨rfl, rfl⟩)
        go_ret
        exact ⟨ret_one (by rw [← HS.out, hy.out]), rfl⟩
    · have hy := Lib.hid (scan_end dgB s k (by omega))
      go_wp2
      go_ret
      exact ⟨ret_one (by rw [← HS.out, hy.out]), rfl⟩

theorem wdB_cases (c : Int) : (ltB c = true ∧ wdB c = true) ∨ (ltB c = false ∧ dgB c = true ∧ wdB c = true) ∨ (ltB c = false ∧ dgB c = false ∧ (c == 95) = true ∧ wdB c = true) ∨ (ltB c = false ∧ dgB c = false ∧ (c == 95) = false ∧ wdB c = false) := by
  unfold wdB; cases ltB c <;> cases dgB c <;> cases (c == 95) <;> simp

theorem word_any (s : ByteArray) (k0 : Int) (w : World) (hs : s.size ≤ maxLen) (h0 : 0 ≤ k0) (h1 : k0 ≤ s.size) :
    Calls Try.prog 77 #[.string s, .int .i64 k0] w fun e w' => e = .returned (.int .i64 (scan wdB s k0.toNat)) ∧ w = w' := by
  unfold maxLen at hs
  obtain ⟨k0, rfl⟩ := Int.eq_ofNat_of_zero_le h0
  rw [Int.toNat_natCast]
  go_enter Try.func77, Try.ntmps77
  go_wp2
  go_loop [1] (fun i => ∃ k : Nat, k ≤ s.size ∧ i = .int .i64 k ∧ scan wdB s k = scan wdB s k0) (fun i => s.size - (intOf i).toNat)
  case atStart => exact ⟨k0, by omega, rfl, rfl⟩
  case round =>
    obtain ⟨k, hk, rfl, hsc⟩ := hrel
    have HS := Lib.hid hsc; clear hsc
    by_cases hlt : k < s.size
    · rcases wdB_cases (s[k].toNat : Int) with ⟨c1, cw⟩ | ⟨c1, c2, cw⟩ | ⟨c1, c2, c3, cw⟩ | ⟨c1, c2, c3, cw⟩
      · have hy := Lib.hid (scan_yes wdB s k hlt cw); clear cw
        go_wp2_with (first | (go_at_call 102; refine (digit_any 102 (.inr rfl) _ _).mono ?_; rintro e w' ⟨rfl, rfl⟩) | (go_at_call 76; refine (letter_any 76 (.inr rfl) _ _).mono ?_; rintro e w' ⟨rfl, rfl⟩))
        go_round
        case rel => exact ⟨k + 1, by omega, by go_num, by rw [← hy.out]; exact HS.out⟩
        case measure => simp [intOf]; omega
      · have hy := Lib.hid (scan_yes wdB s k hlt cw); clear cw
        go_wp2_with (first | (go_at_call 102; refine (digit_any 102 (.inr rfl) _ _).mono ?_; rintro e w' ⟨rfl, rfl⟩) | (go_at_call 76; refine (letter_any 76 (.inr rfl) _ _).mono ?_; rintro e w' ⟨rfl, rfl⟩))
        go_round
        case rel => exact ⟨k + 1, by omega, by go_num, by rw [← hy.out]; exact HS.out⟩
        case measure => simp [intOf]; omega
      · have hy := Lib.hid (scan_yes wdB s k hlt cw); clear cw
        go_wp2_with (first | (go_at_call 102; refine (digit_any 102 (.inr rfl) _ _).mono ?_; rintro e w' ⟨rfl, rfl⟩) | (go_at_call 76; refine (letter_any 76 (.inr rfl) _ _).mono ?_; rintro e w' ⟨rfl, rfl⟩))
        go_round
        case rel => exact ⟨k + 1, by omega, by go_num, by rw [← hy.out]; exact HS.out⟩
        case measure => simp [intOf]; omega
      · have hy := Lib.hid (scan_no wdB s k hlt cw); clear cw
        go_wp2_with (first | (go_at_call 102; refine (digit_any 102 (.inr rfl) _ _).mono ?_; rintro e w' ⟨rfl, rfl⟩) | (go_at_call 76; refine (letter_any 76 (.inr rfl) _ _).mono ?_; rintro e w' ⟨rfl, rfl⟩))
        go_ret
        exact ⟨ret_one (by rw [← HS.out, hy.out]), rfl⟩
    · have hy := Lib.hid (scan_end wdB s k (by omega))
      go_wp2
      go_ret
      exact ⟨ret_one (by rw [← HS.out, hy.out]), rfl⟩

theorem wordSize_no (s : ByteArray) (w : World) (hs : s.size ≤ maxLen) (h0 : 0 < s.size) (hl : ltB (s[0].toNat : Int) = false) :
    Calls Try.prog 101 #[.string s] w fun e w' => e = .returned (.int .i64 0) ∧ w = w' := by
  unfold maxLen at hs
  go_enter Try.func101, Try.ntmps101
  go_wp2_with (go_at_call 116; refine (letter_any 116 (.inl rfl) _ _).mono ?_; rintro e w' ⟨rfl, rfl⟩)
  go_ret
  exact ⟨rfl, rfl⟩

theorem wordSize_yes (s : ByteArray) (w : World) (hs : s.size ≤ maxLen) (h0 : 0 < s.size) (hl : ltB (s[0].toNat : Int) = true) :
    Calls Try.prog 101 #[.string s] w fun e w' => e = .returned (.int .i64 (scan wdB s 1)) ∧ w = w' := by
  unfold maxLen at hs
  go_enter Try.func101, Try.ntmps101
  go_wp2_with (go_at_call 116; refine (letter_any 116 (.inl rfl) _ _).mono ?_; rintro e w' ⟨rfl, rfl⟩)
  go_loop [3] (fun i => ∃ k : Nat, k ≤ s.size ∧ i = .int .i64 k ∧ scan wdB s k = scan wdB s 1) (fun i => s.size - (intOf i).toNat)
  case atStart => exact ⟨1, by omega, rfl, rfl⟩
  case round =>
    clear hl
    obtain ⟨k, hk, rfl, hsc⟩ := hrel
    have HS := Lib.hid hsc; clear hsc
    by_cases hlt : k < s.size
    · rcases wdB_cases (s[k].toNat : Int) with ⟨c1, cw⟩ | ⟨c1, c2, cw⟩ | ⟨c1, c2, c3, cw⟩ | ⟨c1, c2, c3, cw⟩
      · have hy := Lib.hid (scan_yes wdB s k hlt cw); clear cw
        go_wp2_with (first | (go_at_call 117; refine (digit_any 117 (.inl rfl) _ _).mono ?_; rintro e w' ⟨rfl, rfl⟩) | (go_at_call 116; refine (letter_any 116 (.inl rfl) _ _).mono ?_; rintro e w' ⟨rfl, rfl⟩))
        go_round
        case rel => exact ⟨k + 1, by omega, by go_num, by rw [← hy.out]; exact HS.out⟩
        case measure => simp [intOf]; omega
      · have hy := Lib.hid (scan_yes wdB s k hlt cw); clear cw
        go_wp2_with (first | (go_at_call 117; refine (digit_any 117 (.inl rfl) _ _).mono ?_; rintro e w' ⟨rfl, rfl⟩) | (go_at_call 116; refine (letter_any 116 (.inl rfl) _ _).mono ?_; rintro e w' ⟨rfl, rfl⟩))
        go_round
        case rel => exact ⟨k + 1, by omega, by go_num, by rw [← hy.out]; exact HS.out⟩
        case measure => simp [intOf]; omega
      · have hy := Lib.hid (scan_yes wdB s k hlt cw); clear cw
        go_wp2_with (first | (go_at_call 117; refine (digit_any 117 (.inl rfl) _ _).mono ?_; rintro e w' ⟨rfl, rfl⟩) | (go_at_call 116; refine (letter_any 116 (.inl rfl) _ _).mono ?_; rintro e w' ⟨rfl, rfl⟩))
        go_round
        case rel => exact ⟨k + 1, by omega, by go_num, by rw [← hy.out]; exact HS.out⟩
        case measure => simp [intOf]; omega
      · have hy := Lib.hid (scan_no wdB s k hlt cw); clear cw
        go_wp2_with (first | (go_at_call 117; refine (digit_any 117 (.inl rfl) _ _).mono ?_; rintro e w' ⟨rfl, rfl⟩) | (go_at_call 116; refine (letter_any 116 (.inl rfl) _ _).mono ?_; rintro e w' ⟨rfl, rfl⟩))
        go_ret
        exact ⟨ret_one (by rw [← HS.out, hy.out]), rfl⟩
    · have hy := Lib.hid (scan_end wdB s k (by omega))
      go_wp2
      go_ret
      exact ⟨ret_one (by rw [← HS.out, hy.out]), rfl⟩
end Go.Proofs.Ytkgaahmehmbfjaa.Dec
namespace Go.Proofs.Ytkgaahmehmbfjaa.Dec

/-- The size of the number that a list begins with. -/
def numL (l : List UInt8) : Nat :=
  match l.drop (cnt dgB l) with
  | [] => cnt dgB l
  | b :: r => if (b.toNat : Int) = 46 ∧ cnt dgB r ≠ 0 then cnt dgB l + 1 + cnt dgB r else cnt dgB l

def nextEq : List UInt8 → Bool
  | [] => false
  | b :: _ => (b.toNat : Int) == 61

inductive Cls | blank | hash | nl | dig | cmp | sym | let_ | bad
  deriving DecidableEq

def cls (c : Int) : Cls :=
  if c = 32 ∨ c = 9 then .blank else if c = 35 then .hash else if c = 10 then .nl else if 48 ≤ c ∧ c ≤ 57 then .dig
  else if c = 62 ∨ c = 60 ∨ c = 58 then .cmp
  else if c = 45 ∨ c = 43 ∨ c = 44 ∨ c = 59 ∨ c = 47 ∨ c = 61 ∨ c = 40 ∨ c = 41 ∨ c = 42 then .sym
  else if (97 ≤ c ∧ c ≤ 122) ∨ (65 ≤ c ∧ c ≤ 90) then .let_ else .bad

/-- The kind of what a list begins with, and its size. -/
def firstL : List UInt8 → Int × Nat
  | [] => (0, 0)
  | c :: r =>
    match cls (c.toNat : Int) with
    | .blank => (0, 1)
    | .hash => (0, cnt noNl (c :: r))
    | .nl => (4, 1)
    | .dig => (2, numL (c :: r))
    | .cmp => (3, if nextEq r = true then 2 else 1)
    | .sym => (3, 1)
    | .let_ => if 20 < cnt wdB (c :: r) then (-1, 0) else (1, cnt wdB (c :: r))
    | .bad => (-1, 0)

theorem cls_dig {c : Int} (h1 : 48 ≤ c) (h2 : c ≤ 57) : cls c = .dig := by
  unfold cls; rw [if_neg (by omega), if_neg (by omega), if_neg (by omega), if_pos ⟨h1, h2⟩]
theorem cls_let {c : Int} (h : (97 ≤ c ∧ c ≤ 122) ∨ (65 ≤ c ∧ c ≤ 90)) : cls c = .let_ := by
  unfold cls; rw [if_neg (by omega), if_neg (by omega), if_neg (by omega), if_neg (by omega), if_neg (by omega), if_neg (by omega), if_pos h]

/-- All classes of a byte, with the tests of the text decided. -/
theorem cls_cases (c : Int) :
    c = 32 ∨ c = 9 ∨ c = 35 ∨ c = 10 ∨ (48 ≤ c ∧ c ≤ 57) ∨ c = 62 ∨ c = 60 ∨ c = 58 ∨ c = 45 ∨ c = 43 ∨ c = 44 ∨ c = 59 ∨ c = 47 ∨ c = 61 ∨ c = 40 ∨ c = 41 ∨ c = 42 ∨
    ((97 ≤ c ∧ c ≤ 122) ∨ (65 ≤ c ∧ c ≤ 90)) ∨
    (cls c = .bad ∧ ltB c = false ∧ dgB c = false ∧ (c == 32) = false ∧ (c == 9) = false ∧ (c == 35) = false ∧ (c == 10) = false ∧ (c == 48) = false ∧ (c == 49) = false ∧ (c == 50) = false ∧ (c == 51) = false ∧ (c == 52) = false ∧ (c == 53) = false ∧ (c == 54) = false ∧ (c == 55) = false ∧ (c == 56) = false ∧ (c == 57) = false ∧
      (c == 62) = false ∧ (c == 60) = false ∧ (c == 58) = false ∧ (c == 45) = false ∧ (c == 43) = false ∧ (c == 44) = false ∧ (c == 59) = false ∧ (c == 47) = false ∧ (c == 61) = false ∧ (c == 40) = false ∧ (c == 41) = false ∧ (c == 42) = false) := by
  by_cases h1 : c = 32; · exact .inl h1
  by_cases h2 : c = 9; · exact .inr (.inl h2)
  by_cases h3 : c = 35; · exact .inr (.inr (.inl h3))
  by_cases h4 : c = 10; · exact .inr (.inr (.inr (.inl h4)))
  by_cases h5 : 48 ≤ c ∧ c ≤ 57; · exact .inr (.inr (.inr (.inr (.inl h5))))
  refine .inr (.inr (.inr (.inr (.inr ?_))))
  by_cases h6 : c = 62; · exact .inl h6
  by_cases h7 : c = 60; · exact .inr (.inl h7)
  by_cases h8 : c = 58; · exact .inr (.inr (.inl h8))
  refine .inr (.inr (.inr ?_))
  by_cases a1 : c = 45; · exact .inl a1
  by_cases a2 : c = 43; · exact .inr (.inl a2)
  by_cases a3 : c = 44; · exact .inr (.inr (.inl a3))
  by_cases a4 : c = 59; · exact .inr (.inr (.inr (.inl a4)))
  refine .inr (.inr (.inr (.inr ?_)))
  by_cases a5 : c = 47; · exact .inl a5
  by_cases a6 : c = 61; · exact .inr (.inl a6)
  by_cases a7 : c = 40; · exact .inr (.inr (.inl a7))
  by_cases a8 : c = 41; · exact .inr (.inr (.inr (.inl a8)))
  by_cases a9 : c = 42; · exact .inr (.inr (.inr (.inr (.inl a9))))
  refine .inr (.inr (.inr (.inr (.inr ?_))))
  by_cases hl : (97 ≤ c ∧ c ≤ 122) ∨ (65 ≤ c ∧ c ≤ 90); · exact .inl hl
  refine .inr ⟨?_, ltB_no.2 hl, dgB_no.2 h5, ?_⟩
  · unfold cls; simp [*]
  · refine ⟨?_, ?_, ?_, ?_, ?_, ?_, ?_, ?_, ?_, ?_, ?_, ?_, ?_, ?_, ?_, ?_, ?_, ?_, ?_, ?_, ?_, ?_, ?_, ?_, ?_, ?_⟩ <;> (rw [beq_eq_false_iff_ne]; first | assumption | (intro e; apply h5; omega))

theorem cnt_drop (p : Int → Bool) (s : ByteArray) (k : Nat) : scan p s k = k + cnt p (s.data.toList.drop k) := rfl

theorem cnt_cons (p : Int → Bool) (c : UInt8) (r : List UInt8) (h : p (c.toNat : Int) = true) : cnt p (c :: r) = cnt p r + 1 := by rw [cnt, if_pos h]

/-- The number at place k of a string, by its scans. -/
theorem numL_end (s : ByteArray) (k : Nat) (h : s.size ≤ scan dgB s k) : k + numL (s.data.toList.drop k) = scan dgB s k := by
  unfold numL
  have e : (s.data.toList.drop k).drop (cnt dgB (s.data.toList.drop k)) = [] := by
    rw [List.drop_drop]; apply List.drop_eq_nil_of_le
    have := h; rw [cnt_drop] at this; simpa using this
  rw [e]; rfl

theorem numL_plain (s : ByteArray) (k : Nat) (h : scan dgB s k < s.size) (hc : ((s[scan dgB s k]).toNat : Int) ≠ 46 ∨ s.size ≤ scan dgB s k + 1 ∨ (scan dgB s (scan dgB s k + 1) = scan dgB s k + 1)) : k + numL (s.data.toList.drop k) = scan dgB s k := by
  unfold numL
  rw [List.drop_drop, ← cnt_drop, drop_at s _ h]
  by_cases hb : ((s[scan dgB s k]).toNat : Int) = 46
  · dsimp only
    rw [if_neg]
    · rfl
    · rintro ⟨_, hz⟩
      apply hz
      rcases hc with hc | hc | hc
      · exact absurd hb hc
      · rw [List.drop_eq_nil_of_le (by simpa using hc)]; rfl
      · rw [cnt_drop dgB s (scan dgB s k + 1)] at hc; omega
  · dsimp only; rw [if_neg (by rintro ⟨h1, _⟩; exact hb h1)]; rfl

theorem numL_point (s : ByteArray) (k : Nat) (h : scan dgB s k < s.size) (hb : ((s[scan dgB s k]).toNat : Int) = 46) (hc : scan dgB s (scan dgB s k + 1) ≠ scan dgB s k + 1) : k + numL (s.data.toList.drop k) = scan dgB s (scan dgB s k + 1) := by
  unfold numL
  rw [List.drop_drop, ← cnt_drop, drop_at s _ h]
  have e := cnt_drop dgB s (scan dgB s k + 1)
  dsimp only
  rw [if_pos ⟨hb, by omega⟩]
  have e0 := cnt_drop dgB s k
  show k + (cnt dgB (s.data.toList.drop k) + 1 + _) = _
  omega

theorem numL_end' (s : ByteArray) (k d : Nat) (hd : scan dgB s k = d) (h : s.size ≤ d) : k + numL (s.data.toList.drop k) = d := by
  subst hd; exact numL_end s k h
theorem numL_plain' (s : ByteArray) (k d : Nat) (hd : scan dgB s k = d) (h : d < s.size) (hc : ((s[d]).toNat : Int) ≠ 46 ∨ s.size ≤ d + 1 ∨ (scan dgB s (d + 1) = d + 1)) : k + numL (s.data.toList.drop k) = d := by
  subst hd; exact numL_plain s k h hc
theorem numL_point' (s : ByteArray) (k d q : Nat) (hd : scan dgB s k = d) (h : d < s.size) (hb : ((s[d]).toNat : Int) = 46) (hq : scan dgB s (d + 1) = q) (hc : q ≠ d + 1) : k + numL (s.data.toList.drop k) = q := by
  subst hd; subst hq; exact numL_point s k h hb hc
theorem drop_zero' {α : Type} (l : List α) : l.drop 0 = l := rfl
end Go.Proofs.Ytkgaahmehmbfjaa.Dec
namespace Go.Proofs.Ytkgaahmehmbfjaa.Dec
open Go.ChangeShapes Go.WideShapes Go.ChangeAt Go.RowKit
set_option linter.unusedVariables false

theorem ext_max (s : ByteArray) (a : Nat) (h : s.size ≤ maxLen) : (s.extract a s.size).size ≤ maxLen := by
  have e : (s.extract a s.size).size ≤ s.size := by simp
  omega
theorem ext_scan (p : Int → Bool) (s : ByteArray) (a : Nat) : scan p (s.extract a s.size) 0 = cnt p (s.data.toList.drop a) := by
  unfold scan; rw [Lib.extract_to_end]; simp

theorem digitsSize_is (s : ByteArray) (d : Nat) (w : World) (hs : s.size ≤ maxLen) (hd : scan dgB s 0 = d) :
    Calls Try.prog 115 #[.string s] w fun e w' => e = .returned (.int .i64 d) ∧ w = w' := by
  subst hd; exact digitsSize_any s w hs

theorem numberSize_any (s : ByteArray) (w : World) (hs : s.size ≤ maxLen) (h0 : 0 < s.size) :
    Calls Try.prog 100 #[.string s] w fun e w' => e = .returned (.int .i64 (numL s.data.toList)) ∧ w = w' := by
  obtain ⟨d, hd⟩ : ∃ d, scan dgB s 0 = d := ⟨_, rfl⟩
  have hb := scan_le dgB s 0 (by omega)
  rw [hd] at hb
  have HD := Lib.hid hd; clear hd
  have hm := Lib.hid hs
  unfold maxLen at hs
  by_cases hlt : d < s.size
  · have t1 : ((d : Int) == s.size) = false := by simp; omega
    by_cases hp : ((s[d]).toNat : Int) = 46
    · have t2 : (((s[d]).toNat : Int) != 46) = false := by simp [hp]
      have HP := Lib.hid hp; clear hp
      obtain ⟨q, hq⟩ : ∃ q, scan dgB (s.extract (d + 1) s.size) 0 = q := ⟨_, rfl⟩
      have hq2 : scan dgB s (d + 1) = d + 1 + q := by rw [cnt_drop, ← ext_scan, hq]
      have hql := scan_le dgB s (d + 1) (by omega)
      rw [hq2] at hql
      have HQ := Lib.hid hq; have HQ2 := Lib.hid hq2; clear hq hq2
      by_cases hq0 : q = 0
      · have t3 : ((q : Int) == 0) = true := by simp [hq0]
        have HQ0 := Lib.hid hq0; clear hq0
        go_enter Try.func100, Try.ntmps100
        go_wp2_with fail
        refine (digitsSize_is _ d _ hm.out HD.out).mono ?_; rintro e w' ⟨rfl, rfl⟩
        go_wp2_with fail
        refine (digitsSize_is _ q _ (ext_max _ _ hm.out) HQ.out).mono ?_; rintro e w' ⟨rfl, rfl⟩
        go_wp2_with fail
        go_ret
        exact ⟨ret_one (by have e := numL_plain' s 0 d HD.out hlt (.inr (.inr (by rw [HQ2.out, HQ0.out]))); rw [Nat.zero_add] at e; rw [← e]; rfl), rfl⟩
      · have t3 : ((q : Int) == 0) = false := by simp; omega
        go_enter Try.func100, Try.ntmps100
        go_wp2_with fail
        refine (digitsSize_is _ d _ hm.out HD.out).mono ?_; rintro e w' ⟨rfl, rfl⟩
        go_wp2_with fail
        refine (digitsSize_is _ q _ (ext_max _ _ hm.out) HQ.out).mono ?_; rintro e w' ⟨rfl, rfl⟩
        go_wp2_with fail
        go_ret
        exact ⟨ret_one (by have e := numL_point' s 0 d _ HD.out hlt HP.out HQ2.out (by omega); rw [Nat.zero_add, List.drop_zero] at e; rw [e]; omega), rfl⟩
    · have t2 : (((s[d]).toNat : Int) != 46) = true := by simpa using hp
      have HP := Lib.hid hp; clear hp
      go_enter Try.func100, Try.ntmps100
      go_wp2_with fail
      refine (digitsSize_is _ d _ hm.out HD.out).mono ?_; rintro e w' ⟨rfl, rfl⟩
      go_wp2_with fail
      go_ret
      exact ⟨ret_one (by have e := numL_plain' s 0 d HD.out hlt (.inl HP.out); rw [Nat.zero_add] at e; rw [← e]; rfl), rfl⟩
  · have t1 : ((d : Int) == s.size) = true := by simp; omega
    go_enter Try.func100, Try.ntmps100
    go_wp2_with fail
    refine (digitsSize_is _ d _ hm.out HD.out).mono ?_; rintro e w' ⟨rfl, rfl⟩
    go_wp2_with fail
    go_ret
    exact ⟨ret_one (by have e := numL_end' s 0 d HD.out (by omega); rw [Nat.zero_add] at e; rw [← e]; rfl), rfl⟩
end Go.Proofs.Ytkgaahmehmbfjaa.Dec
namespace Go.Proofs
open Go.Shelf
def Try.lays137_ren : Go.Shelf.Ren := ⟨fun | 137 => 114 | 217 => 120 | 266 => 121 | n => n, fun | 9 => 9 | 5 => 5 | 3 => 3 | n => n, fun | n => n⟩
theorem Try.lays137 : Go.Proofs.Lays.n137 Try.prog Try.lays137_ren := {
  mixed := by kernel_rfl
  f137 := Try.func114.trans (congrArg some (by kernel_rfl))
  f217 := Try.func120.trans (congrArg some (by kernel_rfl))
  f266 := Try.func121.trans (congrArg some (by kernel_rfl))
  t3 := Try.underlying3
  a3 := Try.isAgg3
  z3 := Try.sizeOf3
  v3 := Try.zeroValue3
  t5 := Try.underlying5
  a5 := Try.isAgg5
  z5 := Try.sizeOf5
  v5 := Try.zeroValue5
  t9 := Try.underlying9
  a9 := Try.isAgg9
  z9 := Try.sizeOf9
  v9 := Try.zeroValue9 }
open Go.RowKit in
/-- strings.IndexByte: "IndexByte returns the index of the first instance of c in s, or -1 if c is not present in s.": IT RETURNS 'Lib.indexByte s c'; the world is as it was. (LAID: no walk: one application.) -/
theorem Try.strings_IndexByte (s : ByteArray) (c : Int) (w : World) :
    Calls Try.prog 114 #[.string s, .int .u8 c] w fun e w' => e = .returned (.int .i64 (Lib.indexByte s.data.toList c.toNat.toUInt8)) ∧ w' = w := Any.strings_IndexByte Try.lays137 s c w
end Go.Proofs
namespace Go.Proofs.Ytkgaahmehmbfjaa.Dec
open Go.ChangeShapes Go.WideShapes Go.ChangeAt Go.RowKit
set_option linter.unusedVariables false

theorem indexByte_noNl : ∀ l : List UInt8, (Lib.indexByte l 10 = -1 ∧ cnt noNl l = l.length) ∨ (Lib.indexByte l 10 = cnt noNl l ∧ cnt noNl l < l.length)
  | [] => .inl ⟨rfl, rfl⟩
  | c :: r => by
    by_cases hc : c = 10
    · subst hc; exact .inr ⟨rfl, by simp [cnt, noNl]⟩
    · have h1 : noNl (c.toNat : Int) = true := by
        unfold noNl; rw [bne_iff_ne]; intro e
        exact hc (UInt8.toNat_inj.1 (by have : ((10 : UInt8).toNat) = 10 := rfl; omega))
      have h2 : (c == 10) = false := by simpa using hc
      rw [cnt_cons _ _ _ h1, Lib.indexByte, h2]
      rcases indexByte_noNl r with ⟨a, b⟩ | ⟨a, b⟩
      · left; rw [a]; simp [b]
      · right; rw [a]
        have h3 : ((cnt noNl r : Int) == -1) = false := by simp
        rw [h3]; simp; omega

theorem commentSize_any (s : ByteArray) (w : World) (hs : s.size ≤ maxLen) :
    Calls Try.prog 99 #[.string s] w fun e w' => e = .returned (.int .i64 (cnt noNl s.data.toList)) ∧ w = w' := by
  unfold maxLen at hs
  have hz : s.data.toList.length = s.size := by simp
  obtain ⟨n, hn⟩ : ∃ n, cnt noNl s.data.toList = n := ⟨_, rfl⟩
  have h := indexByte_noNl s.data.toList
  rw [hn, hz] at h
  rw [hn]
  have HN := Lib.hid hn; clear hn hz
  have H := Lib.hid h; clear h
  go_enter Try.func99, Try.ntmps99
  go_wp2_with (go_at_call 114; refine (Try.strings_IndexByte _ _ _).mono ?_; rintro e w' ⟨rfl, rfl⟩)
  · rename_i hge
    go_ret
    exact ⟨ret_one (by have h := H.out; omega), rfl⟩
  · rename_i hlt
    go_ret
    exact ⟨ret_one (by have h := H.out; omega), rfl⟩

theorem scan_cons (p : Int → Bool) (s : ByteArray) (h0 : 0 < s.size) (h : p (s[0].toNat : Int) = true) : scan p s 1 = cnt p s.data.toList := by
  have h1 := scan_yes p s 0 h0 h
  show scan p s (0 + 1) = _; rw [← h1, cnt_drop, List.drop_zero, Nat.zero_add]

theorem firstL_eq (s : ByteArray) (h0 : 0 < s.size) : firstL s.data.toList = match cls ((s[0].toNat : Nat) : Int) with
    | .blank => (0, 1) | .hash => (0, cnt noNl s.data.toList) | .nl => (4, 1) | .dig => (2, numL s.data.toList)
    | .cmp => (3, if nextEq (s.data.toList.drop 1) = true then 2 else 1) | .sym => (3, 1)
    | .let_ => if 20 < cnt wdB s.data.toList then (-1, 0) else (1, cnt wdB s.data.toList) | .bad => (-1, 0) := by
  have e := drop_at s 0 h0
  rw [List.drop_zero] at e
  rw [Nat.zero_add] at e
  generalize s.data.toList.drop 1 = r at e
  rw [e]
  rfl

theorem wordSize_is (s : ByteArray) (k : Nat) (w : World) (hs : s.size ≤ maxLen) (h0 : 0 < s.size) (hl : ltB (s[0].toNat : Int) = true) (hk : scan wdB s 1 = k) :
    Calls Try.prog 101 #[.string s] w fun e w' => e = .returned (.int .i64 k) ∧ w = w' := by
  subst hk; exact wordSize_yes s w hs h0 hl
theorem nextEq_at (s : ByteArray) (h : 1 < s.size) : nextEq (s.data.toList.drop 1) = (((s[1].toNat : Nat) : Int) == 61) := by
  rw [drop_at s 1 h]; rfl
theorem nextEq_no (s : ByteArray) (h : ¬ 1 < s.size) : nextEq (s.data.toList.drop 1) = false := by
  rw [List.drop_eq_nil_of_le (by simp; omega)]; rfl

/-- What first returns, by what the list begins with. -/
def FirstRet (r : Int × Nat) (e : Ending) : Prop := e = .returned (.tuple #[.int .i64 r.1, .int .i64 (r.2 : Int)])

set_option maxHeartbeats 1000000 in
theorem first_let (s : ByteArray) (w : World) (hs : s.size ≤ maxLen) (h0 : 0 < s.size) (hc : (97 ≤ ((s[0].toNat : Nat) : Int) ∧ ((s[0].toNat : Nat) : Int) ≤ 122) ∨ (65 ≤ ((s[0].toNat : Nat) : Int) ∧ ((s[0].toNat : Nat) : Int) ≤ 90)) :
    Calls Try.prog 75 #[.string s] w fun e w' => FirstRet (firstL s.data.toList) e ∧ w = w' := by
  have hm := Lib.hid hs
  unfold maxLen at hs
  have hf := firstL_eq s h0
  rw [cls_let hc] at hf
  have hl := scan_cons wdB s h0 (by unfold wdB; rw [ltB_iff.2 hc]; rfl)
  have hpos := scan_le wdB s 1 (by omega)
  obtain ⟨k, hk⟩ : ∃ k, cnt wdB s.data.toList = k := ⟨_, rfl⟩
  rw [hk] at hf hl
  rw [hl] at hpos
  have t0 : ltB (s[0].toNat : Int) = true := ltB_iff.2 hc
  have t1 : ((k : Int) == 0) = false := by simp; omega
  have HF := Lib.hid hf; have HL := Lib.hid hl; have HK := Lib.hid hk; clear hf hl hk
  by_cases h20 : 20 < k
  · have hf2 : firstL s.data.toList = (-1, 0) := by rw [HF.out]; exact if_pos h20
    have HF2 := Lib.hid hf2; clear hf2
    rcases hc with hc | hc
    · go_enter Try.func75, Try.ntmps75
      go_wp2_with (go_at_call 101; refine (wordSize_is _ k _ hm.out h0 t0 HL.out).mono ?_; rintro e w' ⟨rfl, rfl⟩)
      go_ret2
      exact ⟨by rw [HF2.out]; rfl, rfl⟩
    · go_enter Try.func75, Try.ntmps75
      go_wp2_with (go_at_call 101; refine (wordSize_is _ k _ hm.out h0 t0 HL.out).mono ?_; rintro e w' ⟨rfl, rfl⟩)
      go_ret2
      exact ⟨by rw [HF2.out]; rfl, rfl⟩
  · have hf2 : firstL s.data.toList = (1, k) := by rw [HF.out]; exact if_neg h20
    have HF2 := Lib.hid hf2; clear hf2
    rcases hc with hc | hc
    · go_enter Try.func75, Try.ntmps75
      go_wp2_with (go_at_call 101; refine (wordSize_is _ k _ hm.out h0 t0 HL.out).mono ?_; rintro e w' ⟨rfl, rfl⟩)
      go_ret2
      exact ⟨by rw [HF2.out]; rfl, rfl⟩
    · go_enter Try.func75, Try.ntmps75
      go_wp2_with (go_at_call 101; refine (wordSize_is _ k _ hm.out h0 t0 HL.out).mono ?_; rintro e w' ⟨rfl, rfl⟩)
      go_ret2
      exact ⟨by rw [HF2.out]; rfl, rfl⟩


set_option maxHeartbeats 1000000 in
theorem first_any (s : ByteArray) (w : World) (hs : s.size ≤ maxLen) (h0 : 0 < s.size) :
    Calls Try.prog 75 #[.string s] w fun e w' => FirstRet (firstL s.data.toList) e ∧ w = w' := by
  have hm := Lib.hid hs
  unfold maxLen at hs
  have hf := firstL_eq s h0
  rcases cls_cases ((s[0].toNat : Nat) : Int) with hc | hc | hc | hc | hc | hc | hc | hc | hc | hc | hc | hc | hc | hc | hc | hc | hc | hc | hc
  · rw [hc] at hf
    have HF := Lib.hid hf; clear hf
    go_enter Try.func75, Try.ntmps75
    go_wp2_with fail
    go_ret2
    exact ⟨by rw [HF.out]; rfl, rfl⟩
  · rw [hc] at hf
    have HF := Lib.hid hf; clear hf
    go_enter Try.func75, Try.ntmps75
    go_wp2_with fail
    go_ret2
    exact ⟨by rw [HF.out]; rfl, rfl⟩
  · rw [hc] at hf
    have HF := Lib.hid hf; clear hf
    go_enter Try.func75, Try.ntmps75
    go_wp2_with fail
    refine (commentSize_any _ _ hm.out).mono ?_; rintro e w' ⟨rfl, rfl⟩
    go_wp2_with fail
    go_ret2
    exact ⟨by rw [HF.out]; rfl, rfl⟩
  · rw [hc] at hf
    have HF := Lib.hid hf; clear hf
    go_enter Try.func75, Try.ntmps75
    go_wp2_with fail
    go_ret2
    exact ⟨by rw [HF.out]; rfl, rfl⟩
  · obtain ⟨c1, c2⟩ := hc
    rw [cls_dig c1 c2] at hf
    have HF := Lib.hid hf; clear hf
    go_enter Try.func75, Try.ntmps75
    go_wp2_with (go_at_call 100; refine (numberSize_any _ _ hm.out h0).mono ?_; rintro e w' ⟨rfl, rfl⟩)
    all_goals go_ret2
    all_goals exact ⟨by rw [HF.out]; rfl, rfl⟩
  · rw [hc] at hf
    by_cases h1 : 1 < s.size
    · have hn := nextEq_at s h1
      cases ht : ((s[1].toNat : Nat) : Int) == 61
      · rw [ht] at hn
        have HF := Lib.hid hf; have HN := Lib.hid hn; clear hf hn
        go_enter Try.func75, Try.ntmps75
        go_wp2_with fail
        go_ret2
        exact ⟨by rw [HF.out, HN.out]; rfl, rfl⟩
      · rw [ht] at hn
        have HF := Lib.hid hf; have HN := Lib.hid hn; clear hf hn
        go_enter Try.func75, Try.ntmps75
        go_wp2_with fail
        go_ret2
        exact ⟨by rw [HF.out, HN.out]; rfl, rfl⟩
    · have hn := nextEq_no s h1
      have HF := Lib.hid hf; have HN := Lib.hid hn; clear hf hn
      go_enter Try.func75, Try.ntmps75
      go_wp2_with fail
      go_ret2
      exact ⟨by rw [HF.out, HN.out]; rfl, rfl⟩
  · rw [hc] at hf
    by_cases h1 : 1 < s.size
    · have hn := nextEq_at s h1
      cases ht : ((s[1].toNat : Nat) : Int) == 61
      · rw [ht] at hn
        have HF := Lib.hid hf; have HN := Lib.hid hn; clear hf hn
        go_enter Try.func75, Try.ntmps75
        go_wp2_with fail
        go_ret2
        exact ⟨by rw [HF.out, HN.out]; rfl, rfl⟩
      · rw [ht] at hn
        have HF := Lib.hid hf; have HN := Lib.hid hn; clear hf hn
        go_enter Try.func75, Try.ntmps75
        go_wp2_with fail
        go_ret2
        exact ⟨by rw [HF.out, HN.out]; rfl, rfl⟩
    · have hn := nextEq_no s h1
      have HF := Lib.hid hf; have HN := Lib.hid hn; clear hf hn
      go_enter Try.func75, Try.ntmps75
      go_wp2_with fail
      go_ret2
      exact ⟨by rw [HF.out, HN.out]; rfl, rfl⟩
  · rw [hc] at hf
    by_cases h1 : 1 < s.size
    · have hn := nextEq_at s h1
      cases ht : ((s[1].toNat : Nat) : Int) == 61
      · rw [ht] at hn
        have HF := Lib.hid hf; have HN := Lib.hid hn; clear hf hn
        go_enter Try.func75, Try.ntmps75
        go_wp2_with fail
        go_ret2
        exact ⟨by rw [HF.out, HN.out]; rfl, rfl⟩
      · rw [ht] at hn
        have HF := Lib.hid hf; have HN := Lib.hid hn; clear hf hn
        go_enter Try.func75, Try.ntmps75
        go_wp2_with fail
        go_ret2
        exact ⟨by rw [HF.out, HN.out]; rfl, rfl⟩
    · have hn := nextEq_no s h1
      have HF := Lib.hid hf; have HN := Lib.hid hn; clear hf hn
      go_enter Try.func75, Try.ntmps75
      go_wp2_with fail
      go_ret2
      exact ⟨by rw [HF.out, HN.out]; rfl, rfl⟩
  · rw [hc] at hf
    have HF := Lib.hid hf; clear hf
    go_enter Try.func75, Try.ntmps75
    go_wp2_with fail
    go_ret2
    exact ⟨by rw [HF.out]; rfl, rfl⟩
  · rw [hc] at hf
    have HF := Lib.hid hf; clear hf
    go_enter Try.func75, Try.ntmps75
    go_wp2_with fail
    go_ret2
    exact ⟨by rw [HF.out]; rfl, rfl⟩
  · rw [hc] at hf
    have HF := Lib.hid hf; clear hf
    go_enter Try.func75, Try.ntmps75
    go_wp2_with fail
    go_ret2
    exact ⟨by rw [HF.out]; rfl, rfl⟩
  · rw [hc] at hf
    have HF := Lib.hid hf; clear hf
    go_enter Try.func75, Try.ntmps75
    go_wp2_with fail
    go_ret2
    exact ⟨by rw [HF.out]; rfl, rfl⟩
  · rw [hc] at hf
    have HF := Lib.hid hf; clear hf
    go_enter Try.func75, Try.ntmps75
    go_wp2_with fail
    go_ret2
    exact ⟨by rw [HF.out]; rfl, rfl⟩
  · rw [hc] at hf
    have HF := Lib.hid hf; clear hf
    go_enter Try.func75, Try.ntmps75
    go_wp2_with fail
    go_ret2
    exact ⟨by rw [HF.out]; rfl, rfl⟩
  · rw [hc] at hf
    have HF := Lib.hid hf; clear hf
    go_enter Try.func75, Try.ntmps75
    go_wp2_with fail
    go_ret2
    exact ⟨by rw [HF.out]; rfl, rfl⟩
  · rw [hc] at hf
    have HF := Lib.hid hf; clear hf
    go_enter Try.func75, Try.ntmps75
    go_wp2_with fail
    go_ret2
    exact ⟨by rw [HF.out]; rfl, rfl⟩
  · rw [hc] at hf
    have HF := Lib.hid hf; clear hf
    go_enter Try.func75, Try.ntmps75
    go_wp2_with fail
    go_ret2
    exact ⟨by rw [HF.out]; rfl, rfl⟩
  · exact first_let s w hm.out h0 hc
  · obtain ⟨hb, hc⟩ := hc
    rw [hb] at hf
    have HF := Lib.hid hf; clear hf hb
    obtain ⟨hl, hd, hc⟩ := hc
    go_enter Try.func75, Try.ntmps75
    go_wp2_with (go_at_call 101; refine (wordSize_no _ _ hm.out h0 hl).mono ?_; rintro e w' ⟨rfl, rfl⟩)
    go_ret2
    exact ⟨by rw [HF.out]; rfl, rfl⟩
end Go.Proofs.Ytkgaahmehmbfjaa.Dec
namespace Go.Proofs.Ytkgaahmehmbfjaa.Dec
open Go.ChangeShapes Go.WideShapes Go.ChangeAt Go.RowKit
set_option linter.unusedVariables false

def firstC (k : Cls) (c : UInt8) (r : List UInt8) : Int × Nat :=
  match k with
  | .blank => (0, 1)
  | .hash => (0, cnt noNl (c :: r))
  | .nl => (4, 1)
  | .dig => (2, numL (c :: r))
  | .cmp => (3, if nextEq r = true then 2 else 1)
  | .sym => (3, 1)
  | .let_ => if 20 < cnt wdB (c :: r) then (-1, 0) else (1, cnt wdB (c :: r))
  | .bad => (-1, 0)

theorem firstL_at (s : ByteArray) (k : Nat) (h : k < s.size) : firstL (s.data.toList.drop k) = match cls ((s[k].toNat : Nat) : Int) with
    | .blank => (0, 1) | .hash => (0, cnt noNl (s.data.toList.drop k)) | .nl => (4, 1) | .dig => (2, numL (s.data.toList.drop k))
    | .cmp => (3, if nextEq (s.data.toList.drop (k + 1)) = true then 2 else 1) | .sym => (3, 1)
    | .let_ => if 20 < cnt wdB (s.data.toList.drop k) then (-1, 0) else (1, cnt wdB (s.data.toList.drop k)) | .bad => (-1, 0) := by
  have e := drop_at s k h
  generalize s.data.toList.drop (k + 1) = r at e
  rw [e]
  rfl

theorem word_is (s : ByteArray) (k0 q : Nat) (w : World) (hs : s.size ≤ maxLen) (h1 : k0 ≤ s.size) (hq : scan wdB s k0 = q) :
    Calls Try.prog 77 #[.string s, .int .i64 k0] w fun e w' => e = .returned (.int .i64 q) ∧ w = w' := by
  have h := word_any s k0 w hs (by omega) (by omega)
  rw [Int.toNat_natCast, hq] at h; exact h
theorem first_is (s : ByteArray) (w : World) (k : Int) (z : Nat) (hs : s.size ≤ maxLen) (h0 : 0 < s.size) (hk : firstL s.data.toList = (k, z)) :
    Calls Try.prog 75 #[.string s] w fun e w' => e = .returned (.tuple #[.int .i64 k, .int .i64 z]) ∧ w = w' := by
  have h := first_any s w hs h0
  rw [hk] at h; exact h

def nameB (l : List UInt8) : Bool := !l.isEmpty && ((firstL l).1 == 1) && ((firstL l).2 == l.length)

theorem firstL_one {c : UInt8} {r : List UInt8} (h : (firstL (c :: r)).1 = 1) : (97 ≤ (c.toNat : Int) ∧ (c.toNat : Int) ≤ 122) ∨ (65 ≤ (c.toNat : Int) ∧ (c.toNat : Int) ≤ 90) := by
  have e : firstL (c :: r) = firstC (cls (c.toNat : Int)) c r := rfl
  rw [e] at h
  cases hk : cls (c.toNat : Int) <;> rw [hk] at h <;> simp only [firstC] at h
  case let_ =>
    unfold cls at hk; repeat' split at hk
    all_goals first | assumption | contradiction
  all_goals first | (exact absurd h (by decide)) | (split at h <;> exact absurd h (by decide))

theorem nonempty {s : ByteArray} (h0 : 0 < s.size) : s.data.toList.isEmpty = false := by
  have hz : s.data.toList.length = s.size := by simp
  cases he : s.data.toList with
  | nil => rw [he] at hz; simp at hz; omega
  | cons c r => rfl

theorem isName_any (s : ByteArray) (w : World) (hs : s.size ≤ maxLen) : Calls Try.prog 51 #[.string s] w fun e w' => e = .returned (.bool (nameB s.data.toList)) ∧ w = w' := by
  have hm := Lib.hid hs
  have hz : s.data.toList.length = s.size := by simp
  unfold maxLen at hs
  by_cases h0 : 0 < s.size
  · have hne := nonempty h0
    obtain ⟨k, z, hkz⟩ : ∃ k z, firstL s.data.toList = (k, z) := ⟨_, _, rfl⟩
    have hb : nameB s.data.toList = ((k == 1) && ((z : Int) == (s.size : Int))) := by
      unfold nameB; rw [hne, hkz, hz]; simp only [Bool.not_false, Bool.true_and]
      congr 1; rw [Bool.eq_iff_iff]; simp; omega
    rw [hb]
    have u2 : s.toList.isEmpty = false := by rw [Lib.toList_data]; exact hne
    have HK := Lib.hid hkz; clear hb hkz hne hz
    cases hk1 : (k == 1)
    · go_enter Try.func51, Try.ntmps51
      go_wp2_with (go_at_call 75; refine (first_is _ _ k z hm.out h0 HK.out).mono ?_; rintro e w' ⟨rfl, rfl⟩)
      go_ret
      exact ⟨rfl, rfl⟩
    · have HK1 := Lib.hid (eq_of_beq hk1)
      go_enter Try.func51, Try.ntmps51
      go_wp2_with (go_at_call 75; refine (first_is _ _ k z hm.out h0 HK.out).mono ?_; rintro e w' ⟨rfl, rfl⟩)
      go_ret
      exact ⟨rfl, rfl⟩
  · have hne : s.data.toList = [] := List.length_eq_zero_iff.1 (by omega)
    have u2 : s.toList.isEmpty = true := by rw [Lib.toList_data, hne]; rfl
    have hb : nameB s.data.toList = false := by rw [hne]; rfl
    rw [hb]
    clear hb hne hz
    go_enter Try.func51, Try.ntmps51
    go_wp2
    go_ret
    exact ⟨rfl, rfl⟩

theorem risName_any (s : ByteArray) (w : World) (hs : s.size ≤ maxLen) : Calls Try.prog 52 #[.string s] w fun e w' => e = .returned (.bool (nameB s.data.toList)) ∧ w = w' := by
  have hm := Lib.hid hs
  have hz : s.data.toList.length = s.size := by simp
  unfold maxLen at hs
  by_cases h0 : 0 < s.size
  · have hne := nonempty h0
    have t0 : ((s.size : Int) == 0) = false := by rw [beq_eq_false_iff_ne]; omega
    have hd := drop_at s 0 h0
    rw [List.drop_zero] at hd
    have hq := cnt_drop wdB s 0
    rw [List.drop_zero, Nat.zero_add] at hq
    by_cases hl : (97 ≤ ((s[0].toNat : Nat) : Int) ∧ ((s[0].toNat : Nat) : Int) ≤ 122) ∨ (65 ≤ ((s[0].toNat : Nat) : Int) ∧ ((s[0].toNat : Nat) : Int) ≤ 90)
    · have hf := firstL_at s 0 h0
      rw [cls_let hl, List.drop_zero] at hf
      have tl : ltB (s[0].toNat : Int) = true := ltB_iff.2 hl
      obtain ⟨q, hqq⟩ : ∃ q, scan wdB s 0 = q := ⟨_, rfl⟩
      have hql := scan_le wdB s 0 (by omega)
      rw [hqq] at hql
      rw [← hq, hqq] at hf
      have hf2 : firstL s.data.toList = if 20 < q then (-1, 0) else (1, q) := hf
      clear hf
      by_cases h20 : 20 < s.size
      · have hb : nameB s.data.toList = false := by
          unfold nameB; rw [hf2, hz]
          by_cases h21 : 20 < q
          · rw [if_pos h21]
            simp
          · rw [if_neg h21]
            have : (q == s.size) = false := by rw [beq_eq_false_iff_ne]; omega
            rw [this]; simp
        rw [hb]
        have t1 : (20 : Int) < s.size := by omega
        clear hb hf2 hq hd hne hz
        go_enter Try.func52, Try.ntmps52
        go_wp2
        go_ret
        exact ⟨rfl, rfl⟩
      · have hb : nameB s.data.toList = ((q : Int) == (s.size : Int)) := by
          unfold nameB; rw [hf2, hz, hne]
          rw [if_neg (by omega)]
          simp only [Bool.not_false, Bool.true_and, beq_self_eq_true]
          rw [Bool.eq_iff_iff]; simp; omega
        rw [hb]
        have t1 : ¬ (20 : Int) < s.size := by omega
        have HQ := Lib.hid hqq
        clear hb hf2 hq hd hne hz hqq
        go_enter Try.func52, Try.ntmps52
        go_wp2_with (first | (go_at_call 76; refine (letter_any 76 (.inr rfl) _ _).mono ?_; rintro e w' ⟨rfl, rfl⟩) | (go_at_call 77; refine (word_is _ 0 q _ hm.out (by omega) HQ.out).mono ?_; rintro e w' ⟨rfl, rfl⟩))
        go_ret
        exact ⟨rfl, rfl⟩
    · have tl : ltB (s[0].toNat : Int) = false := ltB_no.2 hl
      have hb : nameB s.data.toList = false := by
        unfold nameB
        have : ((firstL s.data.toList).1 == 1) = false := by
          rw [beq_eq_false_iff_ne]; intro h
          rw [hd] at h
          exact hl (firstL_one h)
        rw [this]; simp
      rw [hb]
      clear hb hq hd hne hz
      by_cases h20 : 20 < s.size
      · have t1 : (20 : Int) < s.size := by omega
        go_enter Try.func52, Try.ntmps52
        go_wp2
        go_ret
        exact ⟨rfl, rfl⟩
      · have t1 : ¬ (20 : Int) < s.size := by omega
        go_enter Try.func52, Try.ntmps52
        go_wp2_with (first | (go_at_call 76; refine (letter_any 76 (.inr rfl) _ _).mono ?_; rintro e w' ⟨rfl, rfl⟩))
        go_ret
        exact ⟨rfl, rfl⟩
  · have hne : s.data.toList = [] := List.length_eq_zero_iff.1 (by omega)
    have t0 : ((s.size : Int) == 0) = true := beq_iff_eq.2 (by omega)
    have hb : nameB s.data.toList = false := by rw [hne]; rfl
    rw [hb]
    clear hb hne hz
    go_enter Try.func52, Try.ntmps52
    go_wp2
    go_ret
    exact ⟨rfl, rfl⟩
end Go.Proofs.Ytkgaahmehmbfjaa.Dec
