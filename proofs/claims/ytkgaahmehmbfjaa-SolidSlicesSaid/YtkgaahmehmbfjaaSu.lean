/- Sums over ranges of whole numbers (pure; imports nothing). -/
namespace Go.Proofs.Ytkgaahmehmbfjaa
set_option linter.unusedVariables false
set_option linter.unusedSimpArgs false

/-- The sum of f over n numbers from lo on. -/
def isum (lo : Int) : Nat → (Int → Int) → Int
  | 0, _ => 0
  | n + 1, f => isum lo n f + f (lo + n)
theorem isum_congr {lo : Int} {f g : Int → Int} : ∀ {n : Nat}, (∀ i, lo ≤ i → i < lo + n → f i = g i) → isum lo n f = isum lo n g
  | 0, _ => rfl
  | n + 1, h => by
    rw [isum, isum, isum_congr (n := n) fun i h1 h2 => h i h1 (by omega), h (lo + n) (by omega) (by omega)]
theorem isum_split (lo : Int) (m : Nat) (f : Int → Int) : ∀ n, isum lo (m + n) f = isum lo m f + isum (lo + m) n f
  | 0 => by simp [isum]
  | n + 1 => by
    rw [← Nat.add_assoc, isum, isum, isum_split lo m f n, show lo + ((m + n : Nat) : Int) = lo + m + n by omega]; omega
theorem isum_const (lo c : Int) : ∀ n : Nat, isum lo n (fun _ => c) = n * c
  | 0 => by simp [isum]
  | n + 1 => by rw [isum, isum_const lo c n, Int.natCast_add, Int.add_mul]; simp
theorem isum_le {lo : Int} {f g : Int → Int} : ∀ {n : Nat}, (∀ i, lo ≤ i → i < lo + n → f i ≤ g i) → isum lo n f ≤ isum lo n g
  | 0, _ => Int.le_refl _
  | n + 1, h => by
    rw [isum, isum]
    have a := isum_le (n := n) fun i h1 h2 => h i h1 (by omega)
    have b := h (lo + n) (by omega) (by omega)
    omega
theorem isum_add (lo : Int) (f g : Int → Int) : ∀ n : Nat, isum lo n (fun i => f i + g i) = isum lo n f + isum lo n g
  | 0 => rfl
  | n + 1 => by rw [isum, isum, isum, isum_add lo f g n]; omega
theorem isum_mul (lo c : Int) (f : Int → Int) : ∀ n : Nat, isum lo n (fun i => c * f i) = c * isum lo n f
  | 0 => by simp [isum]
  | n + 1 => by rw [isum, isum, isum_mul lo c f n, Int.mul_add]
theorem isum_shift (lo d : Int) (f : Int → Int) : ∀ n : Nat, isum lo n (fun i => f (i + d)) = isum (lo + d) n f
  | 0 => rfl
  | n + 1 => by rw [isum, isum, isum_shift lo d f n, show lo + n + d = lo + d + n by omega]

/-- The sum of f from a on, below b. -/
def tot (a b : Int) (f : Int → Int) : Int := isum a (b - a).toNat f
theorem tot_congr {a b : Int} {f g : Int → Int} (h : ∀ i, a ≤ i → i < b → f i = g i) : tot a b f = tot a b g := isum_congr fun i h1 h2 => h i h1 (by omega)
theorem tot_join {a b c : Int} (f : Int → Int) (h1 : a ≤ b) (h2 : b ≤ c) : tot a c f = tot a b f + tot b c f := by
  unfold tot
  rw [show (c - a).toNat = (b - a).toNat + (c - b).toNat by omega, isum_split, show a + ((b - a).toNat : Int) = b by omega]
theorem tot_const {a b : Int} (c : Int) (h : a ≤ b) : tot a b (fun _ => c) = (b - a) * c := by
  unfold tot
  rw [isum_const, show ((b - a).toNat : Int) = b - a by omega]
theorem tot_zero (a b : Int) : tot a b (fun _ => 0) = 0 := by unfold tot; rw [isum_const]; simp
theorem tot_none {a b : Int} {f : Int → Int} (h : ∀ i, a ≤ i → i < b → f i = 0) : tot a b f = 0 := by rw [tot_congr h, tot_zero]
theorem tot_le {a b : Int} {f g : Int → Int} (h : ∀ i, a ≤ i → i < b → f i ≤ g i) : tot a b f ≤ tot a b g := isum_le fun i h1 h2 => h i h1 (by omega)
theorem tot_add (a b : Int) (f g : Int → Int) : tot a b (fun i => f i + g i) = tot a b f + tot a b g := isum_add ..
theorem tot_mul (a b c : Int) (f : Int → Int) : tot a b (fun i => c * f i) = c * tot a b f := isum_mul ..
theorem tot_nonneg {a b : Int} {f : Int → Int} (h : ∀ i, a ≤ i → i < b → 0 ≤ f i) : 0 ≤ tot a b f := by
  have := tot_le (f := fun _ => 0) (g := f) h
  rwa [tot_zero] at this
theorem tot_shift (a b d : Int) (f : Int → Int) : tot a b (fun i => f (i + d)) = tot (a + d) (b + d) f := by
  unfold tot
  rw [isum_shift, show b + d - (a + d) = b - a by omega]
/-- What is zero beside a range needs no sum there. -/
theorem tot_supp {a b lo hi : Int} {f : Int → Int} (h1 : a ≤ lo) (h2 : lo ≤ hi) (h3 : hi ≤ b) (h : ∀ i, i < lo ∨ hi ≤ i → f i = 0) : tot a b f = tot lo hi f := by
  rw [tot_join f h1 (Int.le_trans h2 h3), tot_join f h2 h3, tot_none fun i k1 k2 => h i (.inl k2), tot_none (a := hi) fun i k1 k2 => h i (.inr k1)]
  omega
/-- The sums of f over two ranges that both hold what isn't zero. -/
theorem tot_wide {a b a' b' lo hi : Int} {f : Int → Int} (h1 : a ≤ lo) (h2 : lo ≤ hi) (h3 : hi ≤ b) (k1 : a' ≤ lo) (k3 : hi ≤ b') (h : ∀ i, i < lo ∨ hi ≤ i → f i = 0) : tot a b f = tot a' b' f := by
  rw [tot_supp h1 h2 h3 h, tot_supp k1 h2 k3 h]
/-- The size of a range, as a sum. -/
theorem tot_ind {a b lo hi : Int} (c : Int) (h1 : a ≤ lo) (h2 : lo ≤ hi) (h3 : hi ≤ b) : tot a b (fun i => if lo ≤ i ∧ i < hi then c else 0) = (hi - lo) * c := by
  rw [tot_supp h1 h2 h3 fun i k => by rw [if_neg (by omega)], tot_congr (g := fun _ => c) fun i k1 k2 => by rw [if_pos ⟨k1, k2⟩], tot_const c h2]

theorem sum_flatMap {α β : Type} (f : α → List β) (h : β → Int) : ∀ l : List α, ((l.flatMap f).map h).sum = (l.map fun x => ((f x).map h).sum).sum
  | [] => rfl
  | x :: l => by rw [List.flatMap_cons, List.map_append, List.sum_append, sum_flatMap f h l, List.map_cons, List.sum_cons]
theorem sum_congr {α : Type} {f g : α → Int} : ∀ {l : List α}, (∀ x ∈ l, f x = g x) → (l.map f).sum = (l.map g).sum
  | [], _ => rfl
  | x :: l, h => by rw [List.map_cons, List.map_cons, List.sum_cons, List.sum_cons, h x (by simp), sum_congr fun y hy => h y (by simp [hy])]
theorem sum_nonneg {α : Type} {f : α → Int} : ∀ {l : List α}, (∀ x ∈ l, 0 ≤ f x) → 0 ≤ (l.map f).sum
  | [], _ => by simp
  | x :: l, h => by
    rw [List.map_cons, List.sum_cons]
    have := h x (by simp)
    have := sum_nonneg (f := f) (l := l) fun y hy => h y (by simp [hy])
    omega
theorem sum_mul {α : Type} (c : Int) (f : α → Int) : ∀ l : List α, (l.map fun x => c * f x).sum = c * (l.map f).sum
  | [] => by simp
  | x :: l => by rw [List.map_cons, List.map_cons, List.sum_cons, List.sum_cons, sum_mul c f l, Int.mul_add]
end Go.Proofs.Ytkgaahmehmbfjaa
