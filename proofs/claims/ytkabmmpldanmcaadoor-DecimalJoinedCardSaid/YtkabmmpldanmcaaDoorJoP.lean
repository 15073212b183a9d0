/- Plain facts: the lines of a text; the tokens of a text ascend and stand in its lines; joined with spaces, their texts have the same tokens. Nothing of the program. -/
import Derived.Test.YtkabmmpldanmcaaDoorTok
import Derived.Lib.SplitLaws
import Derived.Lib.Join
namespace Go.Proofs.YtkabmmpldanmcaaDoor
set_option linter.unusedVariables false

/-- The lines of a text. -/
def linesL (l : List UInt8) : List (List UInt8) := Lib.split l [10]

theorem index_nl_eq (r : List UInt8) : Lib.index (10 :: r) [10] = 0 := by simp [Lib.index, List.isPrefixOf]
theorem index_nl_ne (c : UInt8) (r : List UInt8) (h : c ≠ 10) : Lib.index (c :: r) [10] = if Lib.index r [10] == -1 then -1 else Lib.index r [10] + 1 := by
  have : ([10] : List UInt8).isPrefixOf (c :: r) = false := by
    simp only [List.isPrefixOf, Bool.and_eq_false_iff]
    exact .inl (by simpa using fun e => h e.symm)
  rw [Lib.index, this]; rfl

theorem linesL_nil : linesL [] = [[]] := by decide
theorem linesL_nl (r : List UInt8) : linesL (10 :: r) = [] :: linesL r := by
  unfold linesL Lib.split
  rw [Lib.count_cons_eq, Nat.add_comm]
  rw [Lib.splitK, index_nl_eq]
  simp
theorem linesL_ne (c : UInt8) (r : List UInt8) (h : c ≠ 10) : linesL (c :: r) = (linesL r).modifyHead (c :: ·) := by
  unfold linesL Lib.split
  rw [Lib.count_cons_ne c 10 r h]
  cases hk : Lib.count r [10] with
  | zero => rfl
  | succ k =>
    rw [Lib.splitK, Lib.splitK, index_nl_ne c r h]
    have hge := Lib.index_ge r [10]
    by_cases hm : Lib.index r [10] = -1
    · simp [hm]
    · have e1 : (Lib.index r [10] == -1) = false := by simpa using hm
      rw [e1]
      have e2 : (Lib.index r [10] + 1 == -1) = false := by simp; omega
      simp only [Bool.false_eq_true, if_false, e2]
      have e3 : (Lib.index r [10] + 1).toNat = (Lib.index r [10]).toNat + 1 := by omega
      simp [e3, Nat.add_assoc]
theorem linesL_app : ∀ (u v : List UInt8), (∀ b ∈ u, b ≠ 10) → linesL (u ++ v) = (linesL v).modifyHead (u ++ ·)
  | [], v, _ => by cases h : linesL v <;> simp [h]
  | c :: u, v, h => by
    rw [List.cons_append, linesL_ne c _ (h c (by simp)), linesL_app u v (fun b hb => h b (by simp [hb]))]
    cases linesL v <;> simp
theorem linesL_pos (l : List UInt8) : ∃ h r, linesL l = h :: r := by
  have hd : linesL l ≠ [] := by
    unfold linesL Lib.split
    cases Lib.count l [10] with
    | zero => simp [Lib.splitK]
    | succ k => rw [Lib.splitK]; split <;> simp
  cases h : linesL l with
  | nil => exact absurd h hd
  | cons a b => exact ⟨a, b, rfl⟩

theorem cnt_no {p : Int → Bool} (hp : p 10 = false) (l : List UInt8) : ∀ b ∈ l.take (cnt p l), b ≠ 10 := by
  intro b hb e
  subst e
  obtain ⟨j, hj, he⟩ := List.mem_iff_getElem.1 hb
  have h1 : j < cnt p l := by simp at hj; omega
  have h2 : j < l.length := by simp at hj; omega
  have := cnt_get p l j h2 h1
  rw [List.getElem_take] at he
  rw [he] at this
  have e : ((10 : UInt8).toNat : Int) = 10 := rfl
  rw [e, hp] at this
  cases this

theorem numL_no (l : List UInt8) : ∀ b ∈ l.take (numL l), b ≠ 10 := by
  have h1 := cnt_no (p := dgB) (by decide) l
  unfold numL
  split
  · exact h1
  · rename_i b r hb
    split
    · rename_i hc
      have e : l = l.take (cnt dgB l) ++ b :: r := by rw [← hb]; exact (List.take_append_drop _ _).symm
      have hlen : (l.take (cnt dgB l)).length = cnt dgB l := by rw [List.length_take]; have := cnt_le dgB l; omega
      intro x hx
      have hx2 : x ∈ (l.take (cnt dgB l)) ++ b :: r.take (cnt dgB r) := by
        have e2 : l.take (cnt dgB l + 1 + cnt dgB r) = (l.take (cnt dgB l)) ++ b :: r.take (cnt dgB r) := by
          generalize cnt dgB l = k at *
          generalize cnt dgB r = q at *
          conv => lhs; rw [e]
          rw [List.take_append, hlen, List.take_of_length_le (by omega)]
          have : k + 1 + q - k = q + 1 := by omega
          rw [this, List.take_succ_cons]
        rw [e2] at hx; exact hx
      simp only [List.mem_append, List.mem_cons] at hx2
      rcases hx2 with hx2 | rfl | hx2
      · exact h1 x hx2
      · intro e; subst e; exact absurd hc.1 (by decide)
      · exact cnt_no (p := dgB) (by decide) r x hx2
    · exact h1

theorem ch_of {c : UInt8} {n : Nat} (h : (c.toNat : Int) = n) (hn : n < 256) : c = UInt8.ofNat n := by
  apply UInt8.toNat_inj.1
  have : (UInt8.ofNat n).toNat = n := by simp; omega
  omega

/-- What the head of a text has to do with the ends of lines. -/
theorem firstL_nl (c : UInt8) (r : List UInt8) : ((firstL (c :: r)).1 = 4 → c = 10) ∧ ((firstL (c :: r)).1 ≠ -1 → (firstL (c :: r)).1 ≠ 4 → ∀ b ∈ (c :: r).take (firstL (c :: r)).2, b ≠ 10) := by
  have e : firstL (c :: r) = firstC (cls (c.toNat : Int)) c r := rfl
  rw [e]
  have hone : ∀ n : Int, (c.toNat : Int) = n → n ≠ 10 → ∀ b ∈ (c :: r).take 1, b ≠ 10 := by
    intro n hn h10 b hb
    simp at hb; subst hb
    intro e; subst e; exact h10 hn.symm
  have hc : cls (c.toNat : Int) ≠ .nl → c ≠ 10 := by
    rintro h rfl; exact h (by decide)
  cases hk : cls (c.toNat : Int) <;> simp only [firstC]
  · refine ⟨by simp, fun _ _ => hone _ rfl ?_⟩
    intro h; exact hc (by rw [hk]; simp) (ch_of (n := 10) h (by omega))
  · exact ⟨by simp, fun _ _ => cnt_no (p := noNl) (by decide) _⟩
  · refine ⟨fun _ => ?_, by simp⟩
    have : (c.toNat : Int) = 10 := by
      unfold cls at hk; repeat' split at hk
      all_goals first | assumption | contradiction
    exact ch_of (n := 10) this (by omega)
  · exact ⟨by simp, fun _ _ => numL_no _⟩
  · refine ⟨by simp, fun _ _ => ?_⟩
    have h10 : c ≠ 10 := hc (by rw [hk]; simp)
    by_cases hq : nextEq r = true
    · cases r with
      | nil => cases hq
      | cons d r =>
        have hd : (d.toNat : Int) = 61 := by simpa [nextEq] using hq
        have hd2 : d ≠ 10 := by rintro rfl; exact absurd hd (by decide)
        rw [if_pos hq]
        intro b hb; simp at hb; rcases hb with rfl | rfl <;> assumption
    · rw [if_neg hq]
      intro b hb; simp at hb; subst hb; exact h10
  · refine ⟨by simp, fun _ _ => hone _ rfl ?_⟩
    intro h; exact hc (by rw [hk]; simp) (ch_of (n := 10) h (by omega))
  · refine ⟨?_, ?_⟩
    · split <;> simp
    · split
      · simp
      · exact fun _ _ => cnt_no (p := wdB) (by decide) _
  · exact ⟨by simp, by simp⟩

/-- A token stands where it says, in these lines. -/
def stands (Ls : List (List UInt8)) (t : Tok) : Prop :=
  1 ≤ t.line ∧ ∃ L, Ls[t.line - 1]? = some L ∧ 1 ≤ t.col ∧ t.col ≤ L.length + 1 ∧ t.text.isPrefixOf (L.drop (t.col - 1)) = true
/-- A token comes after this place. -/
def after (ln co : Nat) (t : Tok) : Prop := ln < t.line ∨ (t.line = ln ∧ co ≤ t.col)
def asc (ts : List Tok) : Prop := ∀ i t u, ts[i]? = some t → ts[i + 1]? = some u → t.line < u.line ∨ (u.line = t.line ∧ t.col < u.col)

theorem asc_cons {t : Tok} {ts : List Tok} (h : asc ts) (h0 : ∀ u, ts[0]? = some u → t.line < u.line ∨ (u.line = t.line ∧ t.col < u.col)) : asc (t :: ts) := by
  intro i a b ha hb
  cases i with
  | zero => simp at ha; subst ha; exact h0 b (by simpa using hb)
  | succ i => exact h i a b (by simpa using ha) (by simpa using hb)

theorem prefix_self {a b : List UInt8} : a.isPrefixOf (a ++ b) = true := by simp

theorem toks_stand (Ls : List (List UInt8)) : ∀ (f : Nat) (l : List UInt8) (ln co : Nat) (ts : List Tok) (c : List UInt8), l.length ≤ f → toks f l ln co = .good ts → 1 ≤ ln → 1 ≤ co → c.length = co - 1 →
    Ls.drop (ln - 1) = (linesL l).modifyHead (c ++ ·) → (∀ t ∈ ts, stands Ls t) ∧ asc ts ∧ (∀ u, ts[0]? = some u → after ln co u) := by
  have hend : ∀ (l : List UInt8) (ln co : Nat) (c : List UInt8), 1 ≤ ln → 1 ≤ co → c.length = co - 1 → Ls.drop (ln - 1) = (linesL l).modifyHead (c ++ ·) →
      (∀ t ∈ [(⟨5, [], ln, co⟩ : Tok)], stands Ls t) ∧ asc [(⟨5, [], ln, co⟩ : Tok)] ∧ (∀ u, [(⟨5, [], ln, co⟩ : Tok)][0]? = some u → after ln co u) := by
    intro l ln co c h1 h2 hc hL
    obtain ⟨h, r, hl⟩ := linesL_pos l
    rw [hl] at hL
    refine ⟨?_, ?_, ?_⟩
    · intro t ht
      simp at ht; subst ht
      refine ⟨h1, c ++ h, ?_, h2, by simp; omega, by simp [List.isPrefixOf]⟩
      have := congrArg (·[0]?) hL
      simpa using this
    · intro i a b ha hb; simp at hb
    · intro u hu; simp at hu; subst hu; exact .inr ⟨rfl, Nat.le_refl _⟩
  intro f
  induction f with
  | zero =>
    intro l ln co ts c hf h h1 h2 hc hL
    simp [toks] at h; subst h
    exact hend l ln co c h1 h2 hc hL
  | succ f ih =>
    intro l ln co ts c hf h h1 h2 hc hL
    cases l with
    | nil => simp [toks] at h; subst h; exact hend [] ln co c h1 h2 hc hL
    | cons b r =>
      obtain ⟨hk, h4, hsz⟩ := firstL_ok b r
      obtain ⟨hn1, hn2⟩ := firstL_nl b r
      rw [toks] at h
      by_cases hb : (firstL (b :: r)).1 = -1
      · rw [if_pos hb] at h; cases h
      · rw [if_neg hb] at h
        obtain ⟨z1, z2⟩ := hsz hb
        generalize hz : (firstL (b :: r)).2 = z at *
        have hfl : ((b :: r).drop z).length ≤ f := by rw [List.length_drop]; simp only [List.length_cons] at hf ⊢; omega
        have hsplit : b :: r = (b :: r).take z ++ (b :: r).drop z := (List.take_append_drop _ _).symm
        have hzl : ((b :: r).take z).length = z := by rw [List.length_take]; omega
        by_cases hq4 : (firstL (b :: r)).1 = 4
        · have hz1 := h4 hq4
          have hb10 := hn1 hq4
          subst hb10
          subst hz1
          rw [if_neg (by rw [hq4]; decide), if_pos hq4] at h
          simp only [List.drop_succ_cons, List.drop_zero] at h hfl
          rw [linesL_nl] at hL
          cases hr : toks f r (ln + 1) 1 with
          | bad x y => rw [hr] at h; cases h
          | good l2 =>
            rw [hr] at h; simp only [Res.put] at h; injection h with h; subst h
            have hL2 : Ls.drop (ln + 1 - 1) = (linesL r).modifyHead ([] ++ ·) := by
              obtain ⟨g, q, hg⟩ := linesL_pos r
              have := congrArg (List.drop 1) hL
              rw [List.drop_drop] at this
              rw [show ln + 1 - 1 = ln - 1 + 1 by omega, this, hg]; simp
            obtain ⟨g1, g2, g3⟩ := ih r (ln + 1) 1 l2 [] hfl hr (by omega) (by omega) rfl hL2
            refine ⟨?_, asc_cons g2 ?_, ?_⟩
            · intro t ht
              simp only [List.mem_cons] at ht
              rcases ht with rfl | ht
              · refine ⟨h1, c ++ [], ?_, h2, by simp; omega, by simp [List.isPrefixOf]⟩
                have := congrArg (·[0]?) hL
                simpa using this
              · exact g1 t ht
            · intro u hu
              rcases g3 u hu with g | ⟨g, _⟩
              · exact .inl (by show ln < u.line; omega)
              · exact .inl (by show ln < u.line; omega)
            · intro u hu; simp at hu; subst hu; exact .inr ⟨rfl, Nat.le_refl _⟩
        · have hno := hn2 hb hq4
          have hL2 : Ls.drop (ln - 1) = (linesL ((b :: r).drop z)).modifyHead ((c ++ (b :: r).take z) ++ ·) := by
            rw [hL]
            conv => lhs; rw [hsplit]
            rw [linesL_app _ _ hno]
            cases linesL ((b :: r).drop z) <;> simp
          have hcl : (c ++ (b :: r).take z).length = co + z - 1 := by rw [List.length_append, hzl, hc]; omega
          by_cases hq0 : (firstL (b :: r)).1 = 0
          · rw [if_pos hq0] at h
            obtain ⟨g1, g2, g3⟩ := ih _ ln (co + z) ts _ hfl h h1 (by omega) hcl hL2
            exact ⟨g1, g2, fun u hu => (g3 u hu).imp id (fun ⟨x, y⟩ => ⟨x, by omega⟩)⟩
          · rw [if_neg hq0, if_neg hq4] at h
            cases hr : toks f ((b :: r).drop z) ln (co + z) with
            | bad x y => rw [hr] at h; cases h
            | good l2 =>
              rw [hr] at h; simp only [Res.put] at h; injection h with h; subst h
              obtain ⟨g1, g2, g3⟩ := ih _ ln (co + z) l2 _ hfl hr h1 (by omega) hcl hL2
              refine ⟨?_, asc_cons g2 ?_, ?_⟩
              · intro t ht
                simp only [List.mem_cons] at ht
                rcases ht with rfl | ht
                · obtain ⟨g, q, hg⟩ := linesL_pos ((b :: r).drop z)
                  rw [hg] at hL2
                  refine ⟨h1, (c ++ (b :: r).take z) ++ g, ?_, h2, ?_, ?_⟩
                  · have := congrArg (·[0]?) hL2
                    simpa using this
                  · show co ≤ _; rw [List.length_append, hcl]; omega
                  · show ((b :: r).take z).isPrefixOf (((c ++ (b :: r).take z) ++ g).drop (co - 1)) = true
                    rw [List.append_assoc, ← hc, List.drop_left]; exact prefix_self
                · exact g1 t ht
              · intro u hu
                rcases g3 u hu with g | ⟨g, g'⟩
                · exact .inl g
                · exact .inr ⟨g, by show co < u.col; omega⟩
              · intro u hu; simp at hu; subst hu; exact .inr ⟨rfl, Nat.le_refl _⟩
end Go.Proofs.YtkabmmpldanmcaaDoor
