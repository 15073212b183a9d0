/- Plain facts: the texts of tokens, joined with spaces, have the same tokens, and are at most twice as long. Nothing of the program. -/
import Derived.Test.YtkabmmpldanmcaaDoorJoP
namespace Go.Proofs.YtkabmmpldanmcaaDoor
set_option linter.unusedVariables false

def piece (t : Tok) : List UInt8 := if t.kind = 4 then [10] else t.text
def joined (ts : List Tok) : List UInt8 := Lib.join (ts.map piece) [32]
def kt (t : Tok) : Int × List UInt8 := (t.kind, t.text)

theorem joined_one (t : Tok) : joined [t] = piece t := by simp [joined, Lib.join, List.intercalate]
theorem joined_cons (t : Tok) {l : List Tok} (h : 0 < l.length) : joined (t :: l) = piece t ++ 32 :: joined l := by
  cases l with
  | nil => simp at h
  | cons u r => simp [joined, Lib.join, List.intercalate]

theorem cnt_sep {p : Int → Bool} {d : UInt8} (hd : p (d.toNat : Int) = false) (x : List UInt8) : ∀ l : List UInt8, cnt p (l.take (cnt p l) ++ d :: x) = cnt p l
  | [] => by simp [cnt, hd]
  | c :: r => by
    by_cases hc : p (c.toNat : Int) = true
    · have e : cnt p (c :: r) = cnt p r + 1 := by rw [cnt, if_pos hc]
      rw [e, List.take_succ_cons, List.cons_append, cnt, if_pos hc, cnt_sep hd x r]
    · have e : cnt p (c :: r) = 0 := by rw [cnt, if_neg hc]
      rw [e, List.take_zero, List.nil_append, cnt, if_neg (by simp [hd])]

theorem numL_sep (l x : List UInt8) : numL (l.take (numL l) ++ 32 :: x) = numL l := by
  have hlen : (l.take (cnt dgB l)).length = cnt dgB l := by rw [List.length_take]; have := cnt_le dgB l; omega
  have plain : numL (l.take (cnt dgB l) ++ 32 :: x) = cnt dgB l := by
    have h1 := cnt_sep (p := dgB) (d := 32) (by decide) x l
    have h2 : (l.take (cnt dgB l) ++ 32 :: x).drop (cnt dgB l) = 32 :: x := by
      conv => lhs; arg 1; rw [← hlen]
      exact List.drop_left
    unfold numL
    rw [h1, h2]
    dsimp only
    rw [if_neg (by rintro ⟨h, _⟩; exact absurd h (by decide))]
  cases hd : l.drop (cnt dgB l) with
  | nil =>
    have e : numL l = cnt dgB l := by unfold numL; rw [hd]
    rw [e]; exact plain
  | cons b r =>
    by_cases hc : (b.toNat : Int) = 46 ∧ cnt dgB r ≠ 0
    · have e : numL l = cnt dgB l + 1 + cnt dgB r := by unfold numL; rw [hd]; dsimp only; rw [if_pos hc]
      have hl : l = l.take (cnt dgB l) ++ b :: r := by rw [← hd]; exact (List.take_append_drop _ _).symm
      have e2 : l.take (numL l) = l.take (cnt dgB l) ++ b :: r.take (cnt dgB r) := by
        rw [e]
        generalize cnt dgB l = k at *
        generalize cnt dgB r = q at *
        conv => lhs; rw [hl]
        rw [List.take_append, hlen, List.take_of_length_le (by omega)]
        have : k + 1 + q - k = q + 1 := by omega
        rw [this, List.take_succ_cons]
      have hb : dgB (b.toNat : Int) = false := by rw [hc.1]; rfl
      have h1 := cnt_sep (p := dgB) (d := b) hb (r.take (cnt dgB r) ++ 32 :: x) l
      have h2 : (l.take (cnt dgB l) ++ b :: (r.take (cnt dgB r) ++ 32 :: x)).drop (cnt dgB l) = b :: (r.take (cnt dgB r) ++ 32 :: x) := by
        conv => lhs; arg 1; rw [← hlen]
        exact List.drop_left
      have h3 := cnt_sep (p := dgB) (d := 32) (by decide) x r
      rw [e2, e, List.append_assoc, List.cons_append]
      unfold numL
      rw [h1, h2]
      dsimp only
      rw [h3, if_pos hc]
    · have e : numL l = cnt dgB l := by unfold numL; rw [hd]; dsimp only; rw [if_neg hc]
      rw [e]; exact plain

theorem firstL_sep (c : UInt8) (r x : List UInt8) (h1 : (firstL (c :: r)).1 ≠ -1) (h0 : (firstL (c :: r)).1 ≠ 0) (h4 : (firstL (c :: r)).1 ≠ 4) :
    firstL ((c :: r).take (firstL (c :: r)).2 ++ 32 :: x) = firstL (c :: r) := by
  obtain ⟨_, _, hz⟩ := firstL_ok c r
  obtain ⟨z1, z2⟩ := hz h1
  have e : firstL (c :: r) = firstC (cls (c.toNat : Int)) c r := rfl
  obtain ⟨z, hz'⟩ : ∃ z, (firstL (c :: r)).2 = z + 1 := ⟨(firstL (c :: r)).2 - 1, by omega⟩
  have e2 : (c :: r).take (firstL (c :: r)).2 ++ 32 :: x = c :: (r.take z ++ 32 :: x) := by rw [hz', List.take_succ_cons]; rfl
  have e3 : firstL ((c :: r).take (firstL (c :: r)).2 ++ 32 :: x) = firstC (cls (c.toNat : Int)) c (r.take z ++ 32 :: x) := by rw [e2]; rfl
  have e5 : (c :: r).take (z + 1) ++ 32 :: x = c :: (r.take z ++ 32 :: x) := by rw [List.take_succ_cons]; rfl
  rw [e3, e]
  rw [e] at h1 h0 h4 hz' 
  cases hk : cls (c.toNat : Int) <;> rw [hk] at h1 h0 h4 hz' <;> simp only [firstC] at h1 h0 h4 hz' ⊢
  case hash => exact absurd rfl h0
  case dig => rw [← e5, ← hz', numL_sep]
  case cmp =>
    by_cases hq : nextEq r = true
    · rw [if_pos hq] at hz'
      obtain rfl : z = 1 := by omega
      cases r with
      | nil => cases hq
      | cons d r =>
        have q2 : nextEq ((d :: r).take 1 ++ 32 :: x) = true := hq
        rw [if_pos q2, if_pos hq]
    · rw [if_neg hq] at hz'
      obtain rfl : z = 0 := by omega
      have q2 : ¬ nextEq (r.take 0 ++ 32 :: x) = true := by rw [List.take_zero, List.nil_append]; intro h; cases h
      rw [if_neg hq, if_neg q2]
  case let_ =>
    by_cases hw : 20 < cnt wdB (c :: r)
    · rw [if_pos hw] at h1; exact absurd rfl h1
    · rw [if_neg hw] at hz' ⊢
      have hz2 : cnt wdB (c :: r) = z + 1 := hz'
      rw [← e5, ← hz2, cnt_sep (by decide), if_neg hw]

theorem T_blank (x : List UInt8) (ln co : Nat) : T (32 :: x) ln co = T x ln (co + 1) := by
  have h := T_step (l := 32 :: x) (by simp) ln co
  have e : firstL (32 :: x) = (0, 1) := rfl
  rw [e] at h
  simpa using h

theorem toks_pos (f : Nat) (l : List UInt8) (ln co : Nat) (ts : List Tok) (h : toks f l ln co = .good ts) : 0 < ts.length := by
  induction f generalizing l ln co ts with
  | zero => simp [toks] at h; rw [← h]; simp
  | succ f ih =>
    cases l with
    | nil => simp [toks] at h; rw [← h]; simp
    | cons c r =>
      rw [toks] at h
      split at h
      · cases h
      · split at h
        · exact ih _ _ _ _ h
        · split at h
          · cases hr : toks f ((c :: r).drop (firstL (c :: r)).2) (ln + 1) 1 with
            | bad a b => rw [hr] at h; cases h
            | good l2 => rw [hr] at h; simp only [Res.put] at h; injection h with h; rw [← h]; simp
          · cases hr : toks f ((c :: r).drop (firstL (c :: r)).2) ln (co + (firstL (c :: r)).2) with
            | bad a b => rw [hr] at h; cases h
            | good l2 => rw [hr] at h; simp only [Res.put] at h; injection h with h; rw [← h]; simp

theorem put_good {t : Tok} {r : Res} {ts : List Tok} (h : r.put t = .good ts) : ∃ l2, r = .good l2 ∧ ts = t :: l2 := by
  cases r with
  | bad a b => cases h
  | good l2 => simp only [Res.put] at h; injection h with h; exact ⟨l2, rfl, h.symm⟩

theorem toks_joined (f : Nat) : ∀ (l : List UInt8) (ln co : Nat) (ts : List Tok), l.length ≤ f → toks f l ln co = .good ts →
    (joined ts).length ≤ 2 * l.length ∧ ∀ a b, ∃ ms, T (joined ts) a b = .good ms ∧ ms.map kt = ts.map kt := by
  induction f with
  | zero =>
    intro l ln co ts hf h
    simp [toks] at h; subst h
    exact ⟨by rw [joined_one]; simp [piece], fun a b => ⟨[⟨5, [], a, b⟩], by rw [joined_one]; exact T_nil a b, rfl⟩⟩
  | succ f ih =>
    intro l ln co ts hf h
    cases l with
    | nil =>
      simp [toks] at h; subst h
      exact ⟨by rw [joined_one]; simp [piece], fun a b => ⟨[⟨5, [], a, b⟩], by rw [joined_one]; exact T_nil a b, rfl⟩⟩
    | cons c r =>
      obtain ⟨hk, h4, hsz⟩ := firstL_ok c r
      rw [toks] at h
      by_cases hb : (firstL (c :: r)).1 = -1
      · rw [if_pos hb] at h; cases h
      · rw [if_neg hb] at h
        obtain ⟨z1, z2⟩ := hsz hb
        have hfl : ((c :: r).drop (firstL (c :: r)).2).length ≤ f := by rw [List.length_drop]; simp only [List.length_cons] at hf ⊢; omega
        have hdl : ((c :: r).drop (firstL (c :: r)).2).length = (c :: r).length - (firstL (c :: r)).2 := List.length_drop
        by_cases hq0 : (firstL (c :: r)).1 = 0
        · rw [if_pos hq0] at h
          obtain ⟨g1, g2⟩ := ih _ _ _ _ hfl h
          exact ⟨by omega, g2⟩
        · rw [if_neg hq0] at h
          by_cases hq4 : (firstL (c :: r)).1 = 4
          · rw [if_pos hq4] at h
            obtain ⟨l2, hr, rfl⟩ := put_good h
            obtain ⟨g1, g2⟩ := ih _ _ _ _ hfl hr
            have hp := toks_pos _ _ _ _ _ hr
            have ej : joined (⟨4, [], ln, co⟩ :: l2) = 10 :: 32 :: joined l2 := by rw [joined_cons _ hp]; rfl
            refine ⟨by rw [ej]; simp only [List.length_cons] at *; omega, fun a b => ?_⟩
            obtain ⟨ms, hm, he⟩ := g2 (a + 1) (1 + 1)
            refine ⟨⟨4, [], a, b⟩ :: ms, ?_, by simp [kt, he]⟩
            rw [ej, T_step (l := 10 :: 32 :: joined l2) (by simp) a b]
            have e : firstL (10 :: 32 :: joined l2) = (4, 1) := rfl
            rw [e]
            dsimp only
            rw [if_neg (by decide), if_neg (by decide), if_pos rfl]
            simp only [List.drop_succ_cons, List.drop_zero]
            rw [T_blank, hm]; rfl
          · rw [if_neg hq4] at h
            obtain ⟨l2, hr, rfl⟩ := put_good h
            obtain ⟨g1, g2⟩ := ih _ _ _ _ hfl hr
            have hp := toks_pos _ _ _ _ _ hr
            have hsep := fun x => firstL_sep c r x hb hq0 hq4
            have hwl : ((c :: r).take (firstL (c :: r)).2).length = (firstL (c :: r)).2 := by rw [List.length_take]; omega
            generalize hK : (firstL (c :: r)).1 = K at *
            generalize hZ : (firstL (c :: r)).2 = Z at *
            generalize hW : (c :: r).take Z = W at *
            have ej : joined (⟨K, W, ln, co⟩ :: l2) = W ++ 32 :: joined l2 := by rw [joined_cons _ hp]; unfold piece; rw [if_neg hq4]
            refine ⟨by rw [ej]; simp only [List.length_append, List.length_cons] at *; omega, fun a b => ?_⟩
            obtain ⟨ms, hm, he⟩ := g2 a (b + Z + 1)
            refine ⟨⟨K, W, a, b⟩ :: ms, ?_, by simp [kt, he]⟩
            rw [ej, T_step (l := W ++ 32 :: joined l2) (by simp only [List.length_append, List.length_cons]; omega) a b, hsep, hK, hZ, if_neg hb, if_neg hq0, if_neg hq4]
            have e1 : (W ++ 32 :: joined l2).drop Z = 32 :: joined l2 := by rw [← hwl]; exact List.drop_left
            have e2 : (W ++ 32 :: joined l2).take Z = W := by rw [← hwl]; exact List.take_left
            rw [e1, e2, T_blank, hm]; rfl
end Go.Proofs.YtkabmmpldanmcaaDoor
