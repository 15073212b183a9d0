/- The cuts of a side as the reference finds them, pure: the next greater one, again and again. -/
import Derived.Test.YtffigpkkdljaiaaAsc
import Derived.Test.YtffigpkkdljaiaaFl0
namespace Go.Proofs.Ytffigpkkdljaiaa
set_option linter.unusedVariables false
set_option linter.unusedSimpArgs false

def nx1 (last acc e : Int) : Int := if last < e ∧ e < acc then e else acc
def nxF (last acc : Int) (os : List S2) : Int := os.foldl (fun a o => nx1 last (nx1 last a o.1) o.2) acc
theorem nx1_spec {last acc : Int} (e : Int) (h : last < acc) : last < nx1 last acc e ∧ nx1 last acc e ≤ acc ∧ (nx1 last acc e = acc ∨ nx1 last acc e = e) ∧ (last < e → nx1 last acc e ≤ e) := by
  unfold nx1
  split <;> omega
theorem nxF_spec {last : Int} : ∀ (os : List S2) (acc : Int), last < acc → last < nxF last acc os ∧ nxF last acc os ≤ acc ∧ (nxF last acc os = acc ∨ ∃ o ∈ os, nxF last acc os = o.1 ∨ nxF last acc os = o.2) ∧
    ∀ o ∈ os, (last < o.1 → nxF last acc os ≤ o.1) ∧ (last < o.2 → nxF last acc os ≤ o.2)
  | [], acc, h => ⟨h, Int.le_refl _, .inl rfl, fun o ho => by cases ho⟩
  | o :: os, acc, h => by
    have s1 := nx1_spec o.1 h
    have s2 := nx1_spec (acc := nx1 last acc o.1) o.2 s1.1
    have s3 := nxF_spec os (nx1 last (nx1 last acc o.1) o.2) s2.1
    have e : nxF last acc (o :: os) = nxF last (nx1 last (nx1 last acc o.1) o.2) os := rfl
    rw [e]
    generalize nx1 last acc o.1 = b at *
    generalize nx1 last b o.2 = c at *
    generalize nxF last c os = r at *
    refine ⟨s3.1, by omega, ?_, fun o' ho' => ?_⟩
    · rcases s3.2.2.1 with k | ⟨o', ho', k⟩
      · rcases s2.2.2.1 with k2 | k2
        · rcases s1.2.2.1 with k1 | k1
          · left; omega
          · right; exact ⟨o, List.mem_cons_self .., .inl (by omega)⟩
        · right; exact ⟨o, List.mem_cons_self .., .inr (by omega)⟩
      · right; exact ⟨o', List.mem_cons_of_mem _ ho', k⟩
    · rcases List.mem_cons.1 ho' with rfl | ho'
      · refine ⟨fun hl => ?_, fun hl => ?_⟩
        · have := s1.2.2.2 hl; omega
        · have := s2.2.2.2 hl; omega
      · exact s3.2.2.2 o' ho'
theorem nxF_take (last acc : Int) (os : List S2) {k : Nat} (h : k < os.length) : nxF last acc (os.take (k + 1)) = nx1 last (nx1 last (nxF last acc (os.take k)) os[k].1) os[k].2 := by
  unfold nxF
  rw [List.take_succ_eq_append_getElem h, List.foldl_append]
  rfl
/-- What the list of cuts is, once it reaches to `last`. -/
structure Cin (lo hi : Int) (os : List S2) (X : List Int) (last : Int) : Prop where
  lo_ : lo ≤ last
  hi_ : last ≤ hi
  ne : X ≠ []
  last_ : X.getLast? = some last
  asc : Asc X
  sub : ∀ x ∈ X, x ∈ ends lo hi os
  all : ∀ e ∈ ends lo hi os, e ≤ last → e ∈ X
  len : (X.length : Int) ≤ last - lo + 1
theorem ends_b {lo hi : Int} {os : List S2} (h : lo ≤ hi) {e : Int} (he : e ∈ ends lo hi os) : lo ≤ e ∧ e ≤ hi := by
  rw [ends_mem] at he
  rcases he with (rfl | rfl) | ⟨o, -, -, h1, h2⟩
  · exact ⟨Int.le_refl _, h⟩
  · exact ⟨h, Int.le_refl _⟩
  · omega
theorem Cin.first {lo hi : Int} (os : List S2) (h : lo ≤ hi) : Cin lo hi os [lo] lo := by
  refine ⟨Int.le_refl _, h, by simp, rfl, List.pairwise_singleton _ _, fun x hx => ?_, fun e he hl => ?_, by simp⟩
  · rw [List.mem_singleton.1 hx, ends_mem]; exact .inl (.inl rfl)
  · have := (ends_b h he).1
    rw [show e = lo by omega]; simp
theorem Cin.le {lo hi : Int} {os : List S2} {X : List Int} {last : Int} (h : Cin lo hi os X last) : ∀ x ∈ X, x ≤ last := by
  intro x hx
  obtain ⟨Y, hY⟩ := List.getLast?_eq_some_iff.1 h.last_
  have ha := h.asc
  rw [hY] at hx ha
  rcases List.mem_append.1 hx with hx | hx
  · exact Int.le_of_lt ((List.pairwise_append.1 ha).2.2 x hx last (by simp))
  · rw [List.mem_singleton.1 hx]; exact Int.le_refl _
theorem Cin.next {lo hi : Int} {os : List S2} {X : List Int} {last : Int} (h : Cin lo hi os X last) (hl : last < hi) : Cin lo hi os (X ++ [nxF last hi os]) (nxF last hi os) := by
  obtain ⟨s1, s2, s3, s4⟩ := nxF_spec os hi hl
  have hl0 := h.lo_
  have hle := h.le
  have hlen := h.len
  generalize hr : nxF last hi os = r at *
  have hmem : r ∈ ends lo hi os := by
    rw [ends_mem]
    rcases s3 with k | ⟨o, ho, k⟩
    · exact .inl (.inr k)
    · by_cases hh : r = hi
      · exact .inl (.inr hh)
      · exact .inr ⟨o, ho, k, by omega, by omega⟩
  refine ⟨by omega, s2, by simp, by simp, ?_, fun x hx => ?_, fun e he hle' => ?_, ?_⟩
  · refine List.pairwise_append.2 ⟨h.asc, List.pairwise_singleton _ _, fun x hx y hy => ?_⟩
    rw [List.mem_singleton.1 hy]
    have := hle x hx; omega
  · rcases List.mem_append.1 hx with hx | hx
    · exact h.sub x hx
    · rw [List.mem_singleton.1 hx]; exact hmem
  · by_cases hc : e ≤ last
    · exact List.mem_append_left _ (h.all e he hc)
    · have : e = r := by
        rw [ends_mem] at he
        rcases he with (rfl | rfl) | ⟨o, ho, k, k1, k2⟩
        · omega
        · omega
        · have := s4 o ho
          rcases k with k | k
          · have := this.1 (by omega); omega
          · have := this.2 (by omega); omega
      rw [this]; simp
  · rw [List.length_append]; simp; omega
/-- The cuts of a side by others. -/
def refX (lo hi : Int) (os : List S2) : List Int := if lo = hi then [lo] else srt (ends lo hi os)
theorem Cin.done {lo hi : Int} {os : List S2} {X : List Int} {last : Int} (h : Cin lo hi os X last) (hl : ¬ last < hi) (hne : lo ≠ hi) : X = refX lo hi os := by
  unfold refX
  rw [if_neg hne]
  obtain ⟨a1, a2⟩ := srt_asc (ends lo hi os)
  refine asc_eq h.asc a1 fun x => ⟨fun hx => (a2 x).2 (h.sub x hx), fun hx => ?_⟩
  have hx := (a2 x).1 hx
  have h1 := h.hi_
  have h2 := h.lo_
  exact h.all x hx (by have := (ends_b (by omega) hx).2; omega)
theorem Cin.none {lo hi : Int} {os : List S2} {X : List Int} {last : Int} (h : Cin lo hi os X last) (he : lo = hi) : X = refX lo hi os := by
  unfold refX
  rw [if_pos he]
  have hx : ∀ x ∈ X, x = lo := fun x hx => by have := ends_b (by omega) (h.sub x hx); omega
  have ha := h.asc
  have hn := h.ne
  rcases X with _ | ⟨x, _ | ⟨y, Y⟩⟩
  · exact absurd rfl hn
  · rw [hx x (by simp)]
  · rw [Asc, List.pairwise_cons] at ha
    have := ha.1 y (by simp)
    have h1 := hx x (by simp)
    have h2 := hx y (by simp)
    omega
/-- The pairs of neighbours, or a single one with itself. -/
def prX (X : List Int) : List S2 := (List.range (max 1 (X.length - 1))).map fun i => (X.getD i 0, X.getD (min (i + 1) (X.length - 1)) 0)
theorem refX_len {lo hi : Int} (os : List S2) (h : lo ≠ hi) : 2 ≤ (refX lo hi os).length := by
  unfold refX
  rw [if_neg h]
  obtain ⟨a1, a2⟩ := srt_asc (ends lo hi os)
  have h1 := (a2 lo).2 (by rw [ends_mem]; exact .inl (.inl rfl))
  have h2 := (a2 hi).2 (by rw [ends_mem]; exact .inl (.inr rfl))
  generalize srt (ends lo hi os) = X at *
  rcases X with _ | ⟨x, _ | ⟨y, Y⟩⟩
  · cases h1
  · rw [List.mem_singleton] at h1 h2; omega
  · simp
theorem prX_cut (lo hi : Int) (os : List S2) : prX (refX lo hi os) = cutS lo hi os := by
  unfold cutS
  by_cases h : lo = hi
  · subst h
    unfold refX prX
    rw [if_pos rfl, if_pos rfl]
    rfl
  · rw [if_neg h]
    have hl := refX_len os h
    have e : srt (ends lo hi os) = refX lo hi os := by unfold refX; rw [if_neg h]
    rw [e]
    generalize refX lo hi os = X at *
    unfold prX prs
    rw [show max 1 (X.length - 1) = X.length - 1 by omega]
    refine List.map_congr_left fun i hi => ?_
    rw [List.mem_range] at hi
    rw [show min (i + 1) (X.length - 1) = i + 1 by omega]
theorem prX_len (X : List Int) : (prX X).length = max 1 (X.length - 1) := by simp [prX]
theorem prX_at {X : List Int} {i : Nat} (h : i < (prX X).length) (hn : X ≠ []) : ∃ (h1 : i < X.length) (h2 : min (i + 1) (X.length - 1) < X.length), (prX X)[i] = (X[i], X[min (i + 1) (X.length - 1)]) := by
  have hl := List.length_pos_iff.2 hn
  have h' := h
  rw [prX_len] at h'
  refine ⟨by omega, by omega, ?_⟩
  simp [prX, List.getD]
  rw [List.getElem?_eq_getElem (show i < X.length by omega), List.getElem?_eq_getElem (show min (i + 1) (X.length - 1) < X.length by omega)]
  simp
def pbox (p q r : S2) : Bx := ⟨p.1, q.1, r.1, p.2, q.2, r.2⟩
theorem cov_parts (l : List Bx) (b : Bx) : covB l b = true ↔ ∀ p ∈ cutS b.a b.d (sds l 0), ∀ q ∈ cutS b.b b.e (sds l 1), ∀ r ∈ cutS b.c b.f (sds l 2), ∃ x ∈ l, conB x (pbox p q r) = true := by
  have e : ∀ (x : Bx) (p q r : S2), conB x (pbox p q r) = true ↔ cn (x.side 0) p = true ∧ cn (x.side 1) q = true ∧ cn (x.side 2) r = true := by
    intro x p q r
    simp only [conB, pbox, cn, Bx.side, Bool.and_eq_true]
    constructor
    · rintro ⟨⟨a, b⟩, c⟩; exact ⟨a, b, c⟩
    · rintro ⟨a, b, c⟩; exact ⟨⟨a, b⟩, c⟩
  simp only [e]
  unfold covB cov3 hold
  simp only [List.all_map, List.all_eq_true, Function.comp, and3, hm_bit]
  constructor
  · intro h p hp q hq r hr
    obtain ⟨j, ⟨h1, k1⟩, ⟨h2, k2⟩, ⟨h3, k3⟩⟩ := h p hp q hq r hr
    exact ⟨l[j], List.getElem_mem h1, k1, k2, k3⟩
  · intro h p hp q hq r hr
    obtain ⟨x, hx, k1, k2, k3⟩ := h p hp q hq r hr
    obtain ⟨j, hj, rfl⟩ := List.mem_iff_getElem.1 hx
    exact ⟨j, ⟨hj, k1⟩, ⟨hj, k2⟩, ⟨hj, k3⟩⟩
def inB (l : List Bx) (x : Bx) : Bool := l.any fun y => conB y x
/-- The parts of a box between the cuts of its sides. -/
def prt (X Y Z : List S2) : List Bx := X.flatMap fun p => Y.flatMap fun q => Z.map fun r => pbox p q r
theorem cov_prt (l : List Bx) (b : Bx) : covB l b = (prt (cutS b.a b.d (sds l 0)) (cutS b.b b.e (sds l 1)) (cutS b.c b.f (sds l 2))).all (inB l) := by
  rw [Bool.eq_iff_iff, cov_parts, List.all_eq_true]
  unfold prt inB
  simp only [List.mem_flatMap, List.mem_map, List.any_eq_true]
  constructor
  · rintro h x ⟨p, hp, q, hq, r, hr, rfl⟩
    exact h p hp q hq r hr
  · exact fun h p hp q hq r hr => h _ ⟨p, hp, q, hq, r, hr, rfl⟩
end Go.Proofs.Ytffigpkkdljaiaa
