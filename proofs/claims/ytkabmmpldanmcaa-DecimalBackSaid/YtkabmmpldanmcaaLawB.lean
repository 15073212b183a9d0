/- DecimalBack returns true: the walk, out of its parts. -/
import Derived.Test.YtkabmmpldanmcaaBkN
import Derived.Test.YtkabmmpldanmcaaBkZ
import Derived.Test.YtkabmmpldanmcaaBkB
namespace Go.Proofs.Ytkabmmpldanmcaa
open Go.ChangeShapes Go.WideShapes Go.ChangeAt Go.RowKit
set_option linter.unusedVariables false

theorem fmtL_len (n : Int) (k : Nat) (hn : n.natAbs ≤ 1152921504606846976) (hk : k ≤ 9) : (fmtL n k).length ≤ 21 := by
  have h1 := dig_le n.natAbs (k + 1) (by omega) (by omega)
  have h2 := pt_len k (dig n.natAbs (k + 1) [])
  have h3 : (sgn n).length ≤ 1 := by unfold sgn; split <;> simp
  unfold fmtL
  rw [List.length_append, h2]
  split <;> omega

theorem bytes_eq {a b : ByteArray} (h : a.data.toList = b.data.toList) : a = b := by
  apply ByteArray.ext
  exact Array.toList_inj.1 h

theorem tails_all (s : ByteArray) (k : Nat) (hk : k ≤ 9) (hs : s.size ≤ 100) (P : Prop)
    (he : ∀ f : Int, parseL s.data.toList k = (0, f) → (f != 0) = true → P)
    (hna : ∀ v : Int, parseL s.data.toList k = (v, 0) → (-1152921504606846976 ≤ v ∧ v ≤ 1152921504606846976) → ∀ t : ByteArray, t = ⟨(fmtL v k).toArray⟩ → ∀ pt : Int, Lib.indexByte s.data.toList 46 = pt → k ≠ 0 → pt < 0 → P)
    (hnb : ∀ v : Int, parseL s.data.toList k = (v, 0) → (-1152921504606846976 ≤ v ∧ v ≤ 1152921504606846976) → ∀ t : ByteArray, t = ⟨(fmtL v k).toArray⟩ → ∀ pt : Int, Lib.indexByte s.data.toList 46 = pt → k ≠ 0 → 0 ≤ pt → pt ≤ 100 → (((s.size : Int) - pt - 1) == (k : Int)) = false → P)
    (hsa : ∀ v : Int, parseL s.data.toList k = (v, 0) → (-1152921504606846976 ≤ v ∧ v ≤ 1152921504606846976) → ∀ t : ByteArray, t = ⟨(fmtL v k).toArray⟩ → ∀ pt : Int, Lib.indexByte s.data.toList 46 = pt → ((k : Int) == 0) = true → t = s → P)
    (hsb : ∀ v : Int, parseL s.data.toList k = (v, 0) → (-1152921504606846976 ≤ v ∧ v ≤ 1152921504606846976) → ∀ t : ByteArray, t = ⟨(fmtL v k).toArray⟩ → ∀ pt : Int, Lib.indexByte s.data.toList 46 = pt → k ≠ 0 → 0 ≤ pt → pt ≤ 100 → (((s.size : Int) - pt - 1) == (k : Int)) = true → t = s → P)
    (hma : parseL s.data.toList k = (0, 0) → ∀ t : ByteArray, t = ⟨(fmtL 0 k).toArray⟩ → ∀ pt : Int, Lib.indexByte s.data.toList 46 = pt → ((k : Int) == 0) = true → (t.toList == s.toList) = false → ⟨#[45]⟩ ++ t = s → t.size ≤ 100 → P)
    (hmb : parseL s.data.toList k = (0, 0) → ∀ t : ByteArray, t = ⟨(fmtL 0 k).toArray⟩ → ∀ pt : Int, Lib.indexByte s.data.toList 46 = pt → k ≠ 0 → 0 ≤ pt → pt ≤ 100 → (((s.size : Int) - pt - 1) == (k : Int)) = true → (t.toList == s.toList) = false → ⟨#[45]⟩ ++ t = s → t.size ≤ 100 → P) : P := by
  have hz : s.data.toList.length = s.size := by simp
  obtain ⟨v, f, hv⟩ : ∃ v f, parseL s.data.toList k = (v, f) := ⟨_, _, rfl⟩
  have herr := parse_err (l := s.data.toList) (k := k)
  rw [hv] at herr
  dsimp only at herr
  by_cases hf : f = 0
  · subst hf
    obtain ⟨hab, hfull⟩ := parse_back hv hk
    have hvb : -1152921504606846976 ≤ v ∧ v ≤ 1152921504606846976 := by omega
    obtain ⟨t, ht⟩ : ∃ t : ByteArray, t = ⟨(fmtL v k).toArray⟩ := ⟨_, rfl⟩
    have htl : t.data.toList = fmtL v k := by rw [ht]
    have hts : t.size = (fmtL v k).length := by rw [ht]; simp [ByteArray.size]
    have htn := fmtL_len v k hab hk
    have same : fmtL v k = s.data.toList → t = s := fun h => bytes_eq (by rw [htl, h])
    have minus : 45 :: fmtL v k = s.data.toList → (⟨#[45]⟩ : ByteArray) ++ t = s ∧ (t.toList == s.toList) = false := by
      intro h
      refine ⟨bytes_eq (by rw [cat_data, htl, ← h]; rfl), ?_⟩
      rw [Lib.toList_data, Lib.toList_data, htl, ← h, beq_eq_false_iff_ne]
      intro e
      have := congrArg List.length e
      simp at this
    by_cases hk0 : k = 0
    · have hkb : ((k : Int) == 0) = true := beq_iff_eq.2 (by omega)
      rcases hfull (.inl hk0) with h | ⟨h0, h⟩
      · exact hsa v hv hvb t ht _ rfl hkb (same h)
      · subst h0
        obtain ⟨m1, m2⟩ := minus h
        exact hma hv t ht _ rfl hkb m2 m1 (by omega)
    · rcases indexByte_noDot s.data.toList with ⟨h1, h2⟩ | ⟨h1, h2⟩
      · exact hna v hv hvb t ht _ h1 hk0 (by omega)
      · by_cases hl : s.data.toList.length - cnt noDot s.data.toList - 1 = k
        · have hlb : (((s.size : Int) - (cnt noDot s.data.toList : Int) - 1) == (k : Int)) = true := beq_iff_eq.2 (by omega)
          rcases hfull (.inr ⟨h2, hl⟩) with h | ⟨h0, h⟩
          · exact hsb v hv hvb t ht _ h1 hk0 (by omega) (by omega) hlb (same h)
          · subst h0
            obtain ⟨m1, m2⟩ := minus h
            exact hmb hv t ht _ h1 hk0 (by omega) (by omega) hlb m2 m1 (by omega)
        · have hlb : (((s.size : Int) - (cnt noDot s.data.toList : Int) - 1) == (k : Int)) = false := by rw [beq_eq_false_iff_ne]; omega
          exact hnb v hv hvb t ht _ h1 hk0 (by omega) (by omega) hlb
  · rcases herr with h | ⟨h, _⟩
    · exact absurd h hf
    · subst h
      exact he f hv (by rw [bne_iff_ne]; exact hf)

theorem back_walk (n d m : Int) (s : ByteArray) (w : World) (hn : (Lit.int .i64 n).wf = true) (hd0 : (Lit.int .u8 d).wf = true) (hm0 : (Lit.int .u8 m).wf = true) (hs0 : s.size ≤ maxLen) :
    Calls Try.prog 8 #[.int .i64 n, .int .u8 d, .int .u8 m, .string s] w fun e w' => e = .returned (.bool true) ∧ Below w.heap.size w w' := by
  have hd := bounds_u8 hd0
  have hm := bounds_u8 hm0
  by_cases hl : 100 < s.size
  · unfold maxLen at hs0
    have t1 : (100 : Int) < s.size := by omega
    clear hn hd0 hm0
    go_enter Try.func8, Try.ntmps8
    go_wp2_with (go_at_call 10; refine (awake_any _).mono ?_; rintro e w1 ⟨rfl, hb1⟩)
    go_ret
    exact ⟨rfl, hb1⟩
  · have hs : s.size ≤ 100 := by omega
    obtain ⟨k, hk⟩ : ∃ k : Nat, d % 10 = k := ⟨(d % 10).toNat, by omega⟩
    have hk9 : k ≤ 9 := by omega
    have hr0 := Int.emod_nonneg m (show (10 - (k : Int)) ≠ 0 by omega)
    have hr1 := Int.emod_lt_of_pos m (show 0 < 10 - (k : Int) by omega)
    obtain ⟨r, hr⟩ : ∃ r : Nat, m % (10 - (k : Int)) = r := ⟨(m % (10 - (k : Int))).toNat, by omega⟩
    have hr9 : k + r ≤ 9 := by omega
    cases hnb : numB n
    · refine tails_all s k hk9 hs _ ?_ ?_ ?_ ?_ ?_ ?_ ?_
      · exact fun f a b => back_n_e n d m s k r w hd hm hk hr hk9 hr9 hs hnb f a b
      · exact fun v a b t c pt e f g => back_n_na n d m s k r w hd hm hk hr hk9 hr9 hs hnb v a b t c pt e f g
      · exact fun v a b t c pt e f g h i => back_n_nb n d m s k r w hd hm hk hr hk9 hr9 hs hnb v a b t c pt e f g h i
      · exact fun v a b t c pt e f g => back_n_sa n d m s k r w hd hm hk hr hk9 hr9 hs hnb v a b t c pt e f g
      · exact fun v a b t c pt e f g h i j => back_n_sb n d m s k r w hd hm hk hr hk9 hr9 hs hnb v a b t c pt e f g h i j
      · exact fun a t c pt e f g h i => back_n_ma n d m s k r w hd hm hk hr hk9 hr9 hs hnb a t c pt e f g h i
      · exact fun a t c pt e f g h i j l o => back_n_mb n d m s k r w hd hm hk hr hk9 hr9 hs hnb a t c pt e f g h i j l o
    · obtain ⟨n1, n2⟩ := numB_iff.1 hnb
      obtain ⟨x, hx⟩ : ∃ x : ByteArray, x = ⟨(fmtL n k).toArray⟩ := ⟨_, rfl⟩
      have hxl : x.data.toList = fmtL n k := by rw [hx]
      have hxs : x.size ≤ 100 := by
        have := fmtL_len n k (by omega) hk9
        rw [hx]; simp only [ByteArray.size, List.size_toArray]; omega
      have h1 : parseL x.data.toList k = (n, 0) := by
        rw [hxl, parse_fmt n k k (by omega) (Nat.le_refl _) hk9, Nat.sub_self, Nat.pow_zero, Nat.mul_one, if_pos (by omega)]
        unfold vres
        by_cases h : n < 0
        · simp only [h, decide_true, if_true]; congr 1; omega
        · simp only [h, decide_false, if_neg (by decide : ¬ false = true)]; congr 1; omega
      by_cases hbig : n.natAbs * 10 ^ r ≤ 1152921504606846976
      · have hz : ∃ z0 : Int, z0 = n * 10 ^ r ∧ z0.natAbs = n.natAbs * 10 ^ r := ⟨_, rfl, by rw [Int.natAbs_mul, Int.natAbs_pow]; rfl⟩
        obtain ⟨z0, hz0, hza⟩ := hz
        have h2 : parseL x.data.toList (k + r) = (z0, 0) := by
          rw [hxl, parse_fmt n k (k + r) (by omega) (by omega) hk9, Nat.add_sub_cancel_left, if_pos hbig]
          unfold vres
          have hpos : (0 : Int) < 10 ^ r := Int.pow_pos (by omega)
          have hc : ((n.natAbs * 10 ^ r : Nat) : Int) = (n.natAbs : Int) * 10 ^ r := by push_cast; rfl
          by_cases h : n < 0
          · simp only [h, decide_true, if_true]; congr 1; rw [hz0, hc, ← Int.neg_mul]; congr 1; omega
          · simp only [h, decide_false, if_neg (by decide : ¬ false = true)]; congr 1; rw [hz0, hc]; congr 1; omega
        have hzb : -1152921504606846976 ≤ z0 ∧ z0 ≤ 1152921504606846976 := by omega
        refine tails_all s k hk9 hs _ ?_ ?_ ?_ ?_ ?_ ?_ ?_
        · exact fun f a b => back_z_e n d m s k r w hd hm hk hr hk9 hr9 hs hnb x hx hxs h1 z0 hz0 hzb h2 f a b
        · exact fun v a b t c pt e f g => back_z_na n d m s k r w hd hm hk hr hk9 hr9 hs hnb x hx hxs h1 z0 hz0 hzb h2 v a b t c pt e f g
        · exact fun v a b t c pt e f g h i => back_z_nb n d m s k r w hd hm hk hr hk9 hr9 hs hnb x hx hxs h1 z0 hz0 hzb h2 v a b t c pt e f g h i
        · exact fun v a b t c pt e f g => back_z_sa n d m s k r w hd hm hk hr hk9 hr9 hs hnb x hx hxs h1 z0 hz0 hzb h2 v a b t c pt e f g
        · exact fun v a b t c pt e f g h i j => back_z_sb n d m s k r w hd hm hk hr hk9 hr9 hs hnb x hx hxs h1 z0 hz0 hzb h2 v a b t c pt e f g h i j
        · exact fun a t c pt e f g h i => back_z_ma n d m s k r w hd hm hk hr hk9 hr9 hs hnb x hx hxs h1 z0 hz0 hzb h2 a t c pt e f g h i
        · exact fun a t c pt e f g h i j l o => back_z_mb n d m s k r w hd hm hk hr hk9 hr9 hs hnb x hx hxs h1 z0 hz0 hzb h2 a t c pt e f g h i j l o
      · have h2 : parseL x.data.toList (k + r) = (0, 5) := by
          rw [hxl, parse_fmt n k (k + r) (by omega) (by omega) hk9, Nat.add_sub_cancel_left, if_neg hbig]; rfl
        refine tails_all s k hk9 hs _ ?_ ?_ ?_ ?_ ?_ ?_ ?_
        · exact fun f a b => back_b_e n d m s k r w hd hm hk hr hk9 hr9 hs hnb x hx hxs h1 h2 f a b
        · exact fun v a b t c pt e f g => back_b_na n d m s k r w hd hm hk hr hk9 hr9 hs hnb x hx hxs h1 h2 v a b t c pt e f g
        · exact fun v a b t c pt e f g h i => back_b_nb n d m s k r w hd hm hk hr hk9 hr9 hs hnb x hx hxs h1 h2 v a b t c pt e f g h i
        · exact fun v a b t c pt e f g => back_b_sa n d m s k r w hd hm hk hr hk9 hr9 hs hnb x hx hxs h1 h2 v a b t c pt e f g
        · exact fun v a b t c pt e f g h i j => back_b_sb n d m s k r w hd hm hk hr hk9 hr9 hs hnb x hx hxs h1 h2 v a b t c pt e f g h i j
        · exact fun a t c pt e f g h i => back_b_ma n d m s k r w hd hm hk hr hk9 hr9 hs hnb x hx hxs h1 h2 a t c pt e f g h i
        · exact fun a t c pt e f g h i j l o => back_b_mb n d m s k r w hd hm hk hr hk9 hr9 hs hnb x hx hxs h1 h2 a t c pt e f g h i j l o
end Go.Proofs.Ytkabmmpldanmcaa
