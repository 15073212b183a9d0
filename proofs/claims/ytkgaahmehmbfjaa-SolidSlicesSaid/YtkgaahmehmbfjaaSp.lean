/- SolidSlices (pure). -/
import Derived.Test.YtkgaahmehmbfjaaPw
import Derived.Test.YtkgaahmehmbfjaaMo
import Derived.Test.YtkgaahmehmbfjaaHl
namespace Go.Proofs.Ytkgaahmehmbfjaa
open Go.ChangeShapes Go.WideShapes Go.ChangeAt Go.RowKit
set_option linter.unusedVariables false
set_option linter.unusedSimpArgs false

theorem cel_bd (l h : List Bx) (x y z : Int) : 0 ≤ celI l h x y z ∧ celI l h x y z ≤ 1 := by unfold celI; split <;> omega
theorem sec_bdF (l h : List Bx) {A B : Int} (hAB : A ≤ B) (x : Int) : 0 ≤ secF l h A B x ∧ secF l h A B x ≤ (B - A) * (B - A) := by
  have h1 : ∀ y, 0 ≤ (tot A B fun z => celI l h x y z) ∧ (tot A B fun z => celI l h x y z) ≤ B - A := fun y => by
    refine ⟨tot_nonneg fun z _ _ => (cel_bd l h x y z).1, ?_⟩
    have := tot_le (a := A) (b := B) (f := fun z => celI l h x y z) (g := fun _ => 1) fun z _ _ => (cel_bd l h x y z).2
    rw [tot_const 1 hAB] at this
    omega
  refine ⟨tot_nonneg fun y _ _ => (h1 y).1, ?_⟩
  have := tot_le (a := A) (b := B) (f := fun y => tot A B fun z => celI l h x y z) (g := fun _ => B - A) fun y _ _ => (h1 y).2
  rw [tot_const _ hAB] at this
  exact this
theorem vol_bdF (l h : List Bx) {A B : Int} (hAB : A ≤ B) : 0 ≤ volF l h A B ∧ volF l h A B ≤ (B - A) * ((B - A) * (B - A)) := by
  refine ⟨tot_nonneg fun x _ _ => (sec_bdF l h hAB x).1, ?_⟩
  have := tot_le (a := A) (b := B) (f := fun x => secF l h A B x) (g := fun _ => (B - A) * (B - A)) fun x _ _ => (sec_bdF l h hAB x).2
  rw [tot_const _ hAB] at this
  exact this
theorem mod_pl {l h : List Bx} (hm : modS l h = true) (ax : Nat) : ∀ z ∈ places l h ax, (-65536 ≤ z ∧ z ≤ 65536) ∨ ∃ b, (b ∈ l ∨ b ∈ h) ∧ ¬ tkB b = true := by
  intro z hz
  have hz := ((srt_asc (pls l ax ++ pls h ax)).2 z).1 hz
  unfold modS at hm
  simp only [Bool.and_eq_true, List.all_eq_true] at hm
  have one : ∀ b, (b ∈ l ∨ b ∈ h) → moB b = true → z = pk b.a b.b b.c ax ∨ z = pk b.d b.e b.f ax → (-65536 ≤ z ∧ z ≤ 65536) ∨ ∃ b, (b ∈ l ∨ b ∈ h) ∧ ¬ tkB b = true := fun b hb hm hz => by
    by_cases ht : tkB b = true
    · have h1 := moB_i.1 hm
      have h2 := tk_i.1 ht
      left
      rcases ax with _ | _ | ax <;> simp only [pk] at hz <;> omega
    · exact .inr ⟨b, hb, ht⟩
  rcases List.mem_append.1 hz with hz | hz
  · obtain ⟨b, hb, hz⟩ := List.mem_flatMap.1 hz
    exact one b (.inl hb) (hm.1 b hb) (by simpa using hz)
  · obtain ⟨b, hb, hz⟩ := List.mem_flatMap.1 hz
    exact one b (.inr hb) (hm.2 b hb) (by simpa using hz)
theorem mod_bd {l h : List Bx} (hs : okS l h = true) (hm : modS l h = true) : ∀ ax, ∀ z ∈ places l h ax, -65536 ≤ z ∧ z ≤ 65536 := fun ax z hz => by
  obtain ⟨-, -, h1, h2⟩ := okS_i.1 hs
  rcases mod_pl hm ax z hz with q | ⟨b, hb | hb, ht⟩
  · exact q
  · exact absurd (h1 b hb) ht
  · exact absurd (h2 b hb) ht
/-- The volume of a modest solid. -/
theorem mod_vol {l h : List Bx} (hs : okS l h = true) (hm : modS l h = true) : volL (parts l h) = volF l h (-65536) 65536 ∧ 0 ≤ volF l h (-65536) 65536 ∧ volF l h (-65536) 65536 ≤ 2251799813685248 := by
  have := vol_bdF l h (A := -65536) (B := 65536) (by omega)
  exact ⟨vol_sum (okS_i.1 hs).1.1 (mod_bd hs hm), this.1, by omega⟩
theorem mod_volR {l h : List Bx} (hs : okS l h = true) (hm : modS l h = true) : volR l h = .tuple #[.int .i64 (volF l h (-65536) 65536), .int .i64 0] := by
  obtain ⟨h1, h2, h3⟩ := mod_vol hs hm
  rw [volR_ok (by rw [h1]; omega), h1]
/-- A cross-section stays the same between two cuts. -/
theorem sec_same {l h : List Bx} {A B : Int} (hl : 1 ≤ l.length) (hA : ∀ ax, ∀ z ∈ places l h ax, A ≤ z ∧ z ≤ B) {s : Sx} (hs : s ∈ strs l h 0) {x : Int} (hx : s.lo ≤ x ∧ x < s.hi) : secF l h A B x = secF l h A B s.lo := by
  rw [← sumY hl hA hs hx, ← sumY hl hA hs ⟨Int.le_refl _, by omega⟩]
/-- The sum of the cross-sections of the first cuts. -/
def secT (l h : List Bx) (A B : Int) (k : Nat) : Int := (((prs (places l h 0)).take k).map fun p => (p.2 - p.1) * secF l h A B p.1).sum
theorem secT_zero (l h : List Bx) (A B : Int) : secT l h A B 0 = 0 := by simp [secT]
theorem secT_succ {l h : List Bx} {A B : Int} {k : Nat} (hk : k + 1 < (places l h 0).length) : secT l h A B (k + 1) = secT l h A B k + secF l h A B (places l h 0)[k] * ((places l h 0)[k + 1] - (places l h 0)[k]) := by
  unfold secT
  rw [prs_take hk, List.map_append, List.sum_append]
  simp [Int.mul_comm]
theorem secT_all {l h : List Bx} {A B : Int} (hl : 1 ≤ l.length) (hA : ∀ ax, ∀ z ∈ places l h ax, A ≤ z ∧ z ≤ B) : secT l h A B ((places l h 0).length - 1) = volF l h A B := by
  unfold secT
  rw [List.take_of_length_le (by rw [prs_len]; omega)]
  have := tot_strs 0 hl (A := A) (B := B) (fun x => secF l h A B x) (fun s => secF l h A B s.lo) (hA 0) (fun s hs x h1 h2 => sec_same hl hA hs ⟨h1, h2⟩) (fun x hx => tot_none fun y _ _ => tot_none fun z _ _ => cel_zero (.inl hx))
  rw [show volF l h A B = tot A B fun x => secF l h A B x from rfl, ← this]
  rw [show strs l h 0 = (prs (places l h 0)).map (sxOf l h 0) from rfl, List.map_map]
  rfl
theorem sum_take_le {α : Type} (f : α → Int) (L : List α) (h : ∀ x ∈ L, 0 ≤ f x) (k : Nat) : 0 ≤ ((L.take k).map f).sum ∧ ((L.take k).map f).sum ≤ (L.map f).sum := by
  have h1 := sum_nonneg (f := f) (l := L.take k) fun x hx => h x (List.mem_of_mem_take hx)
  have h2 := sum_nonneg (f := f) (l := L.drop k) fun x hx => h x (List.mem_of_mem_drop hx)
  have e : (L.map f).sum = ((L.take k).map f).sum + ((L.drop k).map f).sum := by
    rw [← List.sum_append, ← List.map_append, List.take_append_drop]
  omega
theorem secT_bd {l h : List Bx} (hs : okS l h = true) (hm : modS l h = true) (k : Nat) : 0 ≤ secT l h (-65536) 65536 k ∧ secT l h (-65536) 65536 k ≤ 2251799813685248 := by
  have hall := secT_all (okS_i.1 hs).1.1 (mod_bd hs hm)
  obtain ⟨-, h2, h3⟩ := mod_vol hs hm
  have := sum_take_le (fun p : S2 => (p.2 - p.1) * secF l h (-65536) 65536 p.1) (prs (places l h 0)) (fun p hp => Int.mul_nonneg (by
    obtain ⟨-, k3, -⟩ := prs_apart _ (srt_asc (pls l 0 ++ pls h 0)).1 p hp
    omega) (sec_bdF l h (by omega) p.1).1) k
  unfold secT at *
  rw [List.take_of_length_le (by rw [prs_len]; omega)] at hall
  omega
theorem hull_fold : ∀ (l : List Bx) (x : Bx), ((l.foldl hullB x).a ≤ x.a ∧ x.d ≤ (l.foldl hullB x).d) ∧ ∀ b ∈ l, (l.foldl hullB x).a ≤ b.a ∧ b.d ≤ (l.foldl hullB x).d
  | [], x => ⟨⟨Int.le_refl _, Int.le_refl _⟩, fun b hb => by cases hb⟩
  | y :: l, x => by
    obtain ⟨h1, h2⟩ := hull_fold l (hullB x y)
    have e : (hullB x y).a ≤ x.a ∧ (hullB x y).a ≤ y.a ∧ x.d ≤ (hullB x y).d ∧ y.d ≤ (hullB x y).d := by
      unfold hullB mn mx
      simp only
      refine ⟨?_, ?_, ?_, ?_⟩ <;> split <;> omega
    rw [List.foldl_cons]
    refine ⟨by omega, fun b hb => ?_⟩
    rcases List.mem_cons.1 hb with rfl | hb
    · omega
    · exact h2 b hb
theorem hul_in {l : List Bx} {b : Bx} (hb : b ∈ l) : (hulS l).a ≤ b.a ∧ b.d ≤ (hulS l).d := by
  match l, hb with
  | x :: l, hb =>
    obtain ⟨h1, h2⟩ := hull_fold l x
    rcases List.mem_cons.1 hb with rfl | hb
    · exact h1
    · exact h2 b hb
theorem sec_out {l h : List Bx} {A B x : Int} (hx : x < (hulS l).a ∨ (hulS l).d ≤ x) : secF l h A B x = 0 :=
  tot_none fun y _ _ => tot_none fun z _ _ => cel_zero (.inl fun b hb hi => by
    have := hul_in hb
    simp only [Bx.side] at hi
    omega)
end Go.Proofs.Ytkgaahmehmbfjaa
