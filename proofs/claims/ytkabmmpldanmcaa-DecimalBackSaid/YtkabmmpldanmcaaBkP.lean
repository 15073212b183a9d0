/- Texts of numbers are read back, and what is read has its text: plain lists and numbers. Nothing of the program. -/
import Derived.Test.YtkabmmpldanmcaaRp6
namespace Go.Proofs.Ytkabmmpldanmcaa
set_option linter.unusedVariables false

/-- The number of a list of digits behind n. -/
def nv (n : Nat) (l : List UInt8) : Nat := l.foldl (fun a c => 10 * a + dv c) n
theorem nv_nil (n : Nat) : nv n [] = n := rfl
theorem nv_cons (n : Nat) (c : UInt8) (r : List UInt8) : nv n (c :: r) = nv (10 * n + dv c) r := by unfold nv; rw [List.foldl_cons]
theorem nv_app (a b : List UInt8) (n : Nat) : nv n (a ++ b) = nv (nv n a) b := List.foldl_append ..
theorem nv_split (l : List UInt8) : ∀ n : Nat, nv n l = n * 10 ^ l.length + nv 0 l := by
  induction l with
  | nil => intro n; rw [nv_nil, nv_nil]; simp
  | cons c r ih =>
    intro n
    rw [nv_cons, ih (10 * n + dv c), nv_cons, ih (10 * 0 + dv c), List.length_cons, Nat.pow_succ]
    rw [Nat.add_mul, Nat.mul_zero, Nat.zero_add, Nat.add_assoc]
    congr 1
    rw [Nat.mul_comm 10 n, Nat.mul_assoc, Nat.mul_comm 10]
theorem nv_ge (l : List UInt8) : ∀ n : Nat, n ≤ nv n l := by
  induction l with
  | nil => intro n; exact Nat.le_refl _
  | cons c r ih => intro n; have := ih (10 * n + dv c); rw [nv_cons]; omega
theorem nv_rep (c n : Nat) : nv n (List.replicate c 48) = n * 10 ^ c := by
  induction c generalizing n with
  | zero => simp [nv_nil]
  | succ c ih =>
    rw [List.replicate_succ, nv_cons, ih, Nat.pow_succ]
    have : dv 48 = 0 := rfl
    rw [this, Nat.add_zero, Nat.mul_comm 10 n, Nat.mul_assoc, Nat.mul_comm 10]

theorem valL_nv : ∀ (l : List UInt8) (n : Nat), n ≤ 1152921504606846976 → adB l = true → valL n l = if nv n l ≤ 1152921504606846976 then some (nv n l) else none
  | [], n, hn, _ => by rw [valL, nv_nil, if_pos hn]
  | c :: r, n, hn, hd => by
    have hall := (cnt_all_iff dgB _).1 (adB_iff.1 hd)
    have hc := dgB_iff.1 (hall c (by simp))
    have hr : adB r = true := by rw [adB_iff, cnt_all_iff]; intro x hx; exact hall x (by simp [hx])
    have hdv : dv c ≤ 9 := by unfold dv; omega
    rw [valL, nv_cons]
    by_cases hb : (1152921504606846976 - dv c) / 10 < n
    · rw [if_pos hb, if_neg]
      have := nv_ge r (10 * n + dv c); omega
    · rw [if_neg hb]; exact valL_nv r _ (by omega) hr

theorem dv_ch {d : Nat} (h : d < 10) : dv (ch d) = d := by
  unfold dv ch
  have : (UInt8.ofNat (48 + d)).toNat = 48 + d := by simp; omega
  rw [this]; omega
theorem ch_dv {c : UInt8} (h : dgB (c.toNat : Int) = true) : ch (dv c) = c := by
  have h1 := dgB_iff.1 h
  unfold ch dv
  apply UInt8.toNat_inj.1
  have : (UInt8.ofNat (48 + (c.toNat - 48))).toNat = 48 + (c.toNat - 48) := by simp; omega
  rw [this]; omega
theorem ch_dig {d : Nat} (h : d < 10) : dgB ((ch d).toNat : Int) = true := by
  unfold ch
  have : (UInt8.ofNat (48 + d)).toNat = 48 + d := by simp; omega
  rw [this]; exact dgB_iff.2 ⟨by omega, by omega⟩
theorem ch_ne {d : Nat} (h : d < 10) (h0 : d ≠ 0) : ch d ≠ 48 := by
  intro e
  have h1 := dv_ch h
  rw [e] at h1
  exact h0 h1.symm

/-- What the digits of n are. -/
theorem digs_spec : ∀ (f n least : Nat) (acc : List UInt8), n < 10 ^ f → adB acc = true →
    nv 0 (digs f n least acc) = n * 10 ^ acc.length + nv 0 acc ∧ adB (digs f n least acc) = true ∧
    (least < (digs f n least acc).length → acc.length < (digs f n least acc).length → ∃ c r, digs f n least acc = c :: r ∧ c ≠ 48)
  | 0, n, least, acc, hn, ha => by
    have h0 : n = 0 := by simpa using hn
    subst h0
    exact ⟨by simp [digs], ha, fun _ h => by simp [digs] at h⟩
  | f + 1, n, least, acc, hn, ha => by
    rw [digs]
    split
    · rename_i hc
      have hm : n % 10 < 10 := Nat.mod_lt _ (by omega)
      have ha2 : adB (ch (n % 10) :: acc) = true := by
        have e : ch (n % 10) :: acc = [ch (n % 10)] ++ acc := rfl
        rw [e]
        refine adB_append ?_ ha
        rw [adB_iff, cnt_all_iff]; intro x hx; rw [List.mem_singleton.1 hx]; exact ch_dig hm
      obtain ⟨i1, i2, i3⟩ := digs_spec f (n / 10) least (ch (n % 10) :: acc) (by rw [Nat.pow_succ] at hn; omega) ha2
      refine ⟨?_, i2, ?_⟩
      · rw [i1, List.length_cons, Nat.pow_succ, nv_cons, nv_split acc, dv_ch hm]
        have e : n / 10 * (10 ^ acc.length * 10) = (n / 10 * 10) * 10 ^ acc.length := by rw [Nat.mul_comm (10 ^ acc.length), Nat.mul_assoc]
        rw [e, Nat.mul_zero, Nat.zero_add, ← Nat.add_assoc, ← Nat.add_mul]
        congr 2; omega
      · intro h1 h2
        by_cases h3 : (ch (n % 10) :: acc).length < (digs f (n / 10) least (ch (n % 10) :: acc)).length
        · exact i3 h1 h3
        · -- nothing came ahead of it
          have hno : digs f (n / 10) least (ch (n % 10) :: acc) = ch (n % 10) :: acc := digs_stop h3
          have hn0 : n / 10 = 0 := by
            rw [hno] at i1
            have : n / 10 * 10 ^ (ch (n % 10) :: acc).length = 0 := by omega
            rcases Nat.mul_eq_zero.1 this with h | h
            · exact h
            · exact absurd h (Nat.ne_of_gt (Nat.pow_pos (by omega)))
          rw [hno] at h1
          refine ⟨_, _, hno, ch_ne hm ?_⟩
          simp at h1
          omega
    · exact ⟨by have : n = 0 := by omega
                subst this; simp, ha, fun _ h => by omega⟩
where
  digs_stop {f n least : Nat} {acc : List UInt8} (h : ¬ acc.length < (digs f n least acc).length) : digs f n least acc = acc := by
    cases f with
    | zero => rfl
    | succ f =>
      rw [digs] at h ⊢
      split
      · rename_i hc
        rw [if_pos hc] at h
        have := (digs_len f (n / 10) least (ch (n % 10) :: acc)).1
        simp at this; omega
      · rfl

/-- A list of digits without superfluous zeros is that of its number. -/
theorem digs_canon : ∀ (k : Nat) (A acc : List UInt8) (f least : Nat), A.length = k → k ≤ f → adB A = true → least ≤ A.length + acc.length → (least < A.length + acc.length → ∀ c r, A = c :: r → c ≠ 48) →
    digs f (nv 0 A) least acc = A ++ acc
  | 0, A, acc, f, least, hk, hf, ha, hl, hh => by
    have hA : A = [] := List.length_eq_zero_iff.1 hk
    subst hA
    have hno : ¬ (0 < 0 ∨ acc.length < least) := by simp at hl; omega
    cases f with
    | zero => rfl
    | succ f => rw [nv_nil, digs, if_neg hno]; rfl
  | k + 1, A, acc, f, least, hk, hf, ha, hl, hh => by
    obtain ⟨B, c, rfl⟩ : ∃ B c, A = B ++ [c] := ⟨A.dropLast, A.getLast (by intro e; rw [e] at hk; simp at hk), (List.dropLast_concat_getLast _).symm⟩
    obtain ⟨f, rfl⟩ : ∃ f', f = f' + 1 := ⟨f - 1, by omega⟩
    have hall := (cnt_all_iff dgB _).1 (adB_iff.1 ha)
    have hcd : dgB (c.toNat : Int) = true := hall c (by simp)
    have hB : adB B = true := by rw [adB_iff, cnt_all_iff]; intro x hx; exact hall x (by simp [hx])
    have hdv : dv c < 10 := by have := dgB_iff.1 hcd; unfold dv; omega
    have hBl : B.length = k := by simpa using hk
    have e : nv 0 (B ++ [c]) = 10 * nv 0 B + dv c := by rw [nv_app]; rfl
    have e1 : (10 * nv 0 B + dv c) / 10 = nv 0 B := by omega
    have e2 : (10 * nv 0 B + dv c) % 10 = dv c := by omega
    have hpos : 0 < 10 * nv 0 B + dv c ∨ acc.length < least := by
      by_cases h1 : acc.length < least
      · exact .inr h1
      · left
        have hgt : least < (B ++ [c]).length + acc.length := by simp; omega
        cases B with
        | nil =>
          have := hh hgt c [] rfl
          have h2 : dv c ≠ 0 := by
            intro h0
            have h3 := ch_dv hcd
            rw [h0] at h3
            exact this h3.symm
          omega
        | cons b r =>
          have hb := hh hgt b (r ++ [c]) rfl
          have hbd : dgB (b.toNat : Int) = true := hall b (by simp)
          have h2 : dv b ≠ 0 := by
            intro h0
            have h3 := ch_dv hbd
            rw [h0] at h3
            exact hb h3.symm
          have h4 : 10 * 0 + dv b ≤ nv 0 (b :: r) := by rw [nv_cons]; exact nv_ge r _
          omega
    rw [e, digs, if_pos hpos, e1, e2, ch_dv hcd]
    rw [digs_canon k B (c :: acc) f least hBl (by omega) hB (by simp at hl ⊢; omega) (fun h x r hx => hh (by simp at h ⊢; omega) x (r ++ [c]) (by rw [hx]; rfl))]
    simp

/-! ### The texts of numbers -/
theorem dig_spec (n k : Nat) (hn : n ≤ 1152921504606846976) : nv 0 (dig n (k + 1) []) = n ∧ adB (dig n (k + 1) []) = true ∧ (k + 1 < (dig n (k + 1) []).length → ∃ c r, dig n (k + 1) [] = c :: r ∧ c ≠ 48) := by
  obtain ⟨a, b, c⟩ := digs_spec 40 n (k + 1) [] (by omega) rfl
  refine ⟨?_, b, fun h => c h (Nat.lt_of_le_of_lt (Nat.zero_le _) h)⟩
  have e : nv 0 (digs 40 n (k + 1) []) = nv 0 (dig n (k + 1) []) := rfl
  rw [← e, a]; simp [nv_nil]

theorem cnt_dot_cat (A B : List UInt8) (ha : adB A = true) : cnt noDot (A ++ 46 :: B) = A.length := by
  have h1 : cnt noDot A = A.length := by
    rw [cnt_all_iff]; intro c hc
    have := dgB_iff.1 ((cnt_all_iff dgB _).1 (adB_iff.1 ha) c hc)
    unfold noDot; rw [bne_iff_ne]; omega
  rw [cnt_append_all noDot A _ h1]
  have : cnt noDot (46 :: B) = 0 := by rw [cnt, if_neg]; decide
  rw [this]; rfl
theorem cnt_dot_all (A : List UInt8) (ha : adB A = true) : cnt noDot A = A.length := by
  rw [cnt_all_iff]; intro c hc
  have := dgB_iff.1 ((cnt_all_iff dgB _).1 (adB_iff.1 ha) c hc)
  unfold noDot; rw [bne_iff_ne]; omega
theorem ad_take {A : List UInt8} (n : Nat) (ha : adB A = true) : adB (A.take n) = true := by
  rw [adB_iff, cnt_all_iff]; intro c hc
  exact (cnt_all_iff dgB _).1 (adB_iff.1 ha) c (List.mem_of_mem_take hc)
theorem ad_drop {A : List UInt8} (n : Nat) (ha : adB A = true) : adB (A.drop n) = true := by
  rw [adB_iff, cnt_all_iff]; intro c hc
  exact (cnt_all_iff dgB _).1 (adB_iff.1 ha) c (List.mem_of_mem_drop hc)

theorem whole_ok {l : List UInt8} (ha : adB l = true) (h1 : 1 ≤ l.length) (h2 : 1 < l.length → ∃ c r, l = c :: r ∧ c ≠ 48) : wholeB l = true := by
  rcases whole_cases ha with ⟨_, h⟩ | ⟨h, _⟩ | ⟨hl, c, hc, ⟨h48, _⟩ | ⟨_, h⟩⟩
  · omega
  · exact h
  · obtain ⟨d, r, rfl, hd⟩ := h2 hl
    simp at hc; exact absurd (hc.trans h48) hd
  · exact h

theorem unsg_sgn (n : Int) (X : List UInt8) (hX : ∃ c r, X = c :: r ∧ dgB (c.toNat : Int) = true) : unsg (sgn n ++ X) = X ∧ negB (sgn n ++ X) = decide (n < 0) := by
  obtain ⟨c, r, rfl, hc⟩ := hX
  have h1 := dgB_iff.1 hc
  unfold sgn
  by_cases hn : n < 0
  · rw [if_pos hn]
    exact ⟨rfl, by simp [negB, hn]⟩
  · rw [if_neg hn]
    refine ⟨?_, ?_⟩
    · show unsg (c :: r) = c :: r
      unfold unsg; dsimp only; rw [if_neg (by omega)]
    · show negB (c :: r) = _
      unfold negB; simp [hn]; omega

/-- Reading the text of n with j digits, as many as it has, or more. -/
theorem parse_fmt (n : Int) (k j : Nat) (hn : n.natAbs ≤ 1152921504606846976) (hkj : k ≤ j) (hk9 : k ≤ 9) : parseL (fmtL n k) j = vres (decide (n < 0)) (if n.natAbs * 10 ^ (j - k) ≤ 1152921504606846976 then some (n.natAbs * 10 ^ (j - k)) else none) := by
  obtain ⟨d1, d2, d3⟩ := dig_spec n.natAbs k hn
  have dl : k + 1 ≤ (dig n.natAbs (k + 1) []).length := (digs_len 40 n.natAbs (k + 1) []).2 (by omega)
  generalize hD : dig n.natAbs (k + 1) [] = D at *
  have hval : valL 0 (D ++ List.replicate (j - k) 48) = if n.natAbs * 10 ^ (j - k) ≤ 1152921504606846976 then some (n.natAbs * 10 ^ (j - k)) else none := by
    rw [valL_nv _ _ (by omega) (adB_append d2 (adB_rep _)), nv_app, d1, nv_rep]
  have hf : fmtL n k = sgn n ++ pt k D := by unfold fmtL; rw [hD]
  have hhead : ∃ c r, pt k D = c :: r ∧ dgB (c.toNat : Int) = true := by
    cases D with
    | nil => simp at dl
    | cons c r =>
      have hc := (cnt_all_iff dgB _).1 (adB_iff.1 d2) c (by simp)
      unfold pt
      split
      · rename_i h
        have : (c :: r).length - k = (c :: r).length - k - 1 + 1 := by omega
        rw [this]
        exact ⟨c, _, rfl, hc⟩
      · exact ⟨c, r, rfl, hc⟩
  obtain ⟨u1, u2⟩ := unsg_sgn n (pt k D) hhead
  rw [← hf] at u1 u2
  by_cases hk : 0 < k
  · have hpt : pt k D = D.take (D.length - k) ++ 46 :: D.drop (D.length - k) := by unfold pt; rw [if_pos ⟨hk, by omega⟩]
    have hq : cnt noDot (pt k D) = D.length - k := by rw [hpt, cnt_dot_cat _ _ (ad_take _ d2)]; simp
    have htk : (pt k D).take (D.length - k) = D.take (D.length - k) := by rw [hpt, List.take_append_of_le_length (by simp), List.take_take]; simp
    have hdr : (pt k D).drop (D.length - k + 1) = D.drop (D.length - k) := by
      rw [hpt, List.drop_append, List.drop_eq_nil_of_le (by simp)]
      have : D.length - k + 1 - (D.take (D.length - k)).length = 1 := by simp
      rw [this]; rfl
    have hform : formL (unsg (fmtL n k)) j = some (D.take (D.length - k), D.drop (D.length - k)) := by
      rw [u1]; unfold formL; rw [hq, htk, hdr, if_pos]
      refine ⟨whole_ok (ad_take _ d2) (by simp; omega) (fun h => ?_), fun _ => ⟨?_, by simp; omega, ad_drop _ d2⟩⟩
      · obtain ⟨c, r, hc, h48⟩ := d3 (by simp at h; omega)
        rw [hc]
        have : (c :: r).length - k = (c :: r).length - k - 1 + 1 := by rw [hc] at dl; omega
        rw [this]
        exact ⟨c, _, rfl, h48⟩
      · intro h
        have := congrArg List.length h
        simp at this; omega
    rw [pl_some hform, u2, pad_eq j _ (j - k) (by simp; omega), List.take_append_drop, hval]
  · have hk0 : k = 0 := by omega
    subst hk0
    have hpt : pt 0 D = D := by unfold pt; rw [if_neg (by omega)]
    have hq : cnt noDot D = D.length := cnt_dot_all D d2
    have hform : formL (unsg (fmtL n 0)) j = some (D, []) := by
      rw [u1, hpt]; unfold formL; rw [hq, List.take_length, List.drop_eq_nil_of_le (by omega), if_pos]
      exact ⟨whole_ok d2 dl (fun h => d3 h), fun h => by omega⟩
    rw [pl_some hform, u2, pad_eq j _ j (by simp), List.append_nil]
    have : j - 0 = j := rfl
    rw [this] at hval
    rw [hval]; rfl

theorem unsg_cases (l : List UInt8) : (negB l = true ∧ l = 45 :: unsg l) ∨ (negB l = false ∧ l = unsg l) := by
  cases l with
  | nil => exact .inr ⟨rfl, rfl⟩
  | cons c r =>
    by_cases hc : (c.toNat : Int) = 45
    · left
      have h45 : c = 45 := UInt8.toNat_inj.1 (by have : ((45 : UInt8).toNat) = 45 := rfl; omega)
      subst h45; exact ⟨rfl, rfl⟩
    · right; unfold negB unsg; dsimp only; rw [if_neg hc]; exact ⟨by simpa using hc, rfl⟩

theorem nv_lower {c : UInt8} {r : List UInt8} (hc : dgB (c.toNat : Int) = true) (h : c ≠ 48) : 10 ^ r.length ≤ nv 0 (c :: r) := by
  have h2 : dv c ≠ 0 := by
    intro h0
    have h3 := ch_dv hc
    rw [h0] at h3
    exact h h3.symm
  rw [nv_cons, nv_split r]
  have : 1 * 10 ^ r.length ≤ (10 * 0 + dv c) * 10 ^ r.length := Nat.mul_le_mul_right _ (by omega)
  omega

theorem canon {W P : List UInt8} {k m : Nat} (hw : wholeB W = true) (hp : adB P = true) (hP : P.length = k) (hk : k ≤ 9) (hm : m = nv 0 (W ++ P)) (hb : m ≤ 1152921504606846976) : dig m (k + 1) [] = W ++ P := by
  have hwa := whole_ad hw
  have ha := adB_append hwa hp
  have hW : 1 ≤ W.length ∧ (1 < W.length → ∃ c r, W = c :: r ∧ c ≠ 48) := by
    rcases whole_cases hwa with ⟨h, _⟩ | ⟨_, h⟩ | ⟨hl, c, hc, ⟨_, h⟩ | ⟨h48, _⟩⟩
    · rw [h] at hw; cases hw
    · exact ⟨by omega, fun h => by omega⟩
    · rw [h] at hw; cases hw
    · refine ⟨by omega, fun _ => ?_⟩
      cases W with
      | nil => simp at hl
      | cons d r => simp at hc; exact ⟨d, r, rfl, by rw [hc]; exact h48⟩
  have hlen : (W ++ P).length ≤ 40 := by
    by_cases h1 : 1 < W.length
    · obtain ⟨c, r, rfl, h48⟩ := hW.2 h1
      have hcd := (cnt_all_iff dgB _).1 (adB_iff.1 hwa) c (by simp)
      have h2 := nv_lower (r := r ++ P) hcd h48
      have e : c :: (r ++ P) = (c :: r) ++ P := rfl
      rw [e, ← hm] at h2
      have h3 : 10 ^ (r ++ P).length < 10 ^ 19 := by omega
      have h4 := (Nat.pow_lt_pow_iff_right (by decide : 1 < 10)).1 h3
      simp at h4 ⊢; omega
    · simp; omega
  have h := digs_canon (W ++ P).length (W ++ P) [] 40 (k + 1) rfl hlen ha (by simp; omega) (fun h c r hc => by
    obtain ⟨d, r2, hd, h48⟩ := hW.2 (by simp at h; omega)
    rw [hd] at hc
    injection hc with h1 _
    rw [← h1]; exact h48)
  rw [List.append_nil, ← hm] at h
  exact h

theorem u_split {u : List UInt8} (h : cnt noDot u < u.length) : u = u.take (cnt noDot u) ++ 46 :: u.drop (cnt noDot u + 1) := by
  have h1 := cnt_stop noDot u h
  have h46 : u[cnt noDot u] = 46 := by
    have h2 : ((u[cnt noDot u].toNat : Nat) : Int) = 46 := by
      unfold noDot at h1; exact bne_eq_false_iff_eq.1 h1
    exact UInt8.toNat_inj.1 (by have : ((46 : UInt8).toNat) = 46 := rfl; omega)
  conv => lhs; rw [← List.take_append_drop (cnt noDot u) u]
  rw [List.drop_eq_getElem_cons h, h46]

def Full (l : List UInt8) (k : Nat) : Prop := k = 0 ∨ (cnt noDot l < l.length ∧ l.length - cnt noDot l - 1 = k)

theorem parse_back {l : List UInt8} {k : Nat} {v : Int} (h : parseL l k = (v, 0)) (hk : k ≤ 9) : v.natAbs ≤ 1152921504606846976 ∧ (Full l k → fmtL v k = l ∨ (v = 0 ∧ 45 :: fmtL v k = l)) := by
  unfold parseL at h
  cases hf : formL (unsg l) k with
  | none => rw [hf] at h; simp at h
  | some WP =>
    obtain ⟨W, P⟩ := WP
    rw [hf] at h
    dsimp only at h
    unfold formL at hf
    split at hf
    case isFalse => cases hf
    case isTrue hc =>
      obtain ⟨hw, hpt⟩ := hc
      injection hf with hf
      injection hf with e1 e2
      cases hv : valL 0 (W ++ P ++ padL k P) with
      | none => rw [hv] at h; simp at h
      | some m =>
        rw [hv] at h
        dsimp only at h
        have hql := cnt_le noDot (unsg l)
        have hp : adB P = true := by
          by_cases hlt : cnt noDot (unsg l) < (unsg l).length
          · rw [← e2]; exact (hpt hlt).2.2
          · rw [← e2, List.drop_eq_nil_of_le (by omega)]; rfl
        have hw' : wholeB W = true := by rw [← e1]; exact hw
        have had : adB (W ++ P ++ padL k P) = true := adB_append (adB_append (whole_ad hw') hp) (adB_rep _)
        have hb := valL_le _ _ _ (by omega) had hv
        have hval := valL_nv _ 0 (by omega) had
        rw [hv] at hval
        have hm : m = nv 0 (W ++ P ++ padL k P) := by
          split at hval
          · injection hval
          · cases hval
        have habs : v.natAbs = m := by
          have h1 : v = if negB l = true then -(m : Int) else m := by injection h with h _; exact h.symm
          rw [h1]; split <;> omega
        refine ⟨by omega, fun hfull => ?_⟩
        -- the point stands where it must
        have hlen : P.length = k ∧ (0 < k → cnt noDot (unsg l) < (unsg l).length) ∧ (k = 0 → cnt noDot (unsg l) = (unsg l).length) := by
          have hqq : cnt noDot l + (unsg l).length = cnt noDot (unsg l) + l.length := by
            rcases unsg_cases l with ⟨_, hl⟩ | ⟨_, hl⟩
            · conv => lhs; lhs; rw [hl]
              conv => rhs; rhs; rw [hl]
              rw [cnt, if_pos (by decide)]; simp; omega
            · rw [← hl]
          have hPl : P.length = (unsg l).length - (cnt noDot (unsg l) + 1) := by rw [← e2]; simp
          have hll := cnt_le noDot l
          rcases hfull with h0 | ⟨h1, h2⟩
          · subst h0
            by_cases hlt : cnt noDot (unsg l) < (unsg l).length
            · have h3 := hpt hlt
              rw [e2] at h3
              exact absurd (List.length_eq_zero_iff.1 (Nat.le_zero.1 h3.2.1)) h3.1
            · exact ⟨by omega, fun h => by omega, fun _ => by omega⟩
          · by_cases hlt : cnt noDot (unsg l) < (unsg l).length
            · refine ⟨by omega, fun _ => hlt, fun h0 => ?_⟩
              have h3 := hpt hlt
              rw [e2] at h3
              exact absurd (List.length_eq_zero_iff.1 (by omega)) h3.1
            · omega
        have hpad : padL k P = [] := by unfold padL; rw [hlen.1]; simp
        rw [hpad, List.append_nil] at hm
        have hcan := canon hw' hp hlen.1 hk hm hb
        have hu : pt k (W ++ P) = unsg l := by
          by_cases h0 : 0 < k
          · have hlt := hlen.2.1 h0
            have hW1 : 1 ≤ W.length := by
              rcases whole_cases (whole_ad hw') with ⟨h, _⟩ | ⟨_, h⟩ | ⟨h, _⟩
              · rw [h] at hw'; cases hw'
              · omega
              · omega
            unfold pt
            rw [if_pos ⟨h0, by simp; omega⟩]
            have e : (W ++ P).length - k = W.length := by simp; omega
            rw [e, List.take_left, List.drop_left, ← e1, ← e2]
            exact (u_split hlt).symm
          · have hk0 : k = 0 := by omega
            have hq := hlen.2.2 hk0
            unfold pt
            rw [if_neg (by omega)]
            have hP0 : P = [] := List.length_eq_zero_iff.1 (by omega)
            rw [hP0, List.append_nil, ← e1, hq, List.take_length]
        have hfm : fmtL v k = sgn v ++ unsg l := by unfold fmtL; rw [habs, hcan, hu]
        have h1 : v = if negB l = true then -(m : Int) else m := by injection h with h _; exact h.symm
        rcases unsg_cases l with ⟨hn, hl⟩ | ⟨hn, hl⟩
        · rw [if_pos hn] at h1
          by_cases hm0 : m = 0
          · right
            refine ⟨by omega, ?_⟩
            rw [hfm]; unfold sgn; rw [if_neg (by omega)]
            exact hl.symm
          · left
            rw [hfm]; unfold sgn; rw [if_pos (by omega)]
            exact hl.symm
        · left
          rw [if_neg (by rw [hn]; decide)] at h1
          rw [hfm]; unfold sgn; rw [if_neg (by omega)]
          exact hl.symm

theorem parse_err {l : List UInt8} {k : Nat} : (parseL l k).2 = 0 ∨ ((parseL l k).1 = 0 ∧ ((parseL l k).2 = 5 ∨ (parseL l k).2 = 7)) := by
  unfold parseL
  split
  · exact .inr ⟨rfl, .inr rfl⟩
  · split
    · exact .inr ⟨rfl, .inl rfl⟩
    · exact .inl rfl
end Go.Proofs.Ytkabmmpldanmcaa
