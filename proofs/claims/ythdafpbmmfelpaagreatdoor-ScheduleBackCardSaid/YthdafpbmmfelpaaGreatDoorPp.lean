/- Pieces: the pure side, and the map of numbers by lengths. -/
import Derived.Test.YthdafpbmmfelpaaGreatDoorBl
import Derived.Test.YthdafpbmmfelpaaGreatDoorIt
import Derived.Test.YthdafpbmmfelpaaGreatDoorM4
import Derived.Test.YthdafpbmmfelpaaGreatDoorCz
import Derived.Maps.OwnOps
import Derived.Maps.OwnSet
import Derived.Maps.Views
import Derived.Lib.SlKeysI
namespace Go.Proofs.YthdafpbmmfelpaaGreatDoor
open Go.ChangeShapes Go.WideShapes Go.ChangeAt Go.RowKit Go.Maps
set_option linter.unusedVariables false
set_option linter.unusedSimpArgs false

def inC (d x : Int) (b : Bar) : Bool := (b.size == d) && (cutB b == x)
def hasC (l : List Bar) (d x : Int) : Bool := l.any (inC d x)
def kct (l : List Bar) (d x : Int) : Int := ((l.filter (inC d x)).map (·.count)).sum
theorem has_snoc (l : List Bar) (b : Bar) (d x : Int) : hasC (l ++ [b]) d x = (hasC l d x || inC d x b) := by simp [hasC]
theorem kct_snoc (l : List Bar) (b : Bar) (d x : Int) : kct (l ++ [b]) d x = kct l d x + if inC d x b then b.count else 0 := by
  unfold kct
  rw [List.filter_append, List.map_append, List.sum_append]
  cases h : inC d x b <;> simp [h]
theorem kct_cons (l : List Bar) (b : Bar) (d x : Int) : kct (b :: l) d x = (if inC d x b then b.count else 0) + kct l d x := by
  unfold kct
  cases h : inC d x b <;> simp [List.filter_cons, h]
theorem kct_bd : ∀ {l : List Bar} (d x : Int), (∀ b ∈ l, barB b = true) → 0 ≤ kct l d x ∧ kct l d x ≤ l.length * 1000
  | [], d, x, h => by simp [kct]
  | b :: r, d, x, h => by
    have ih := kct_bd (l := r) d x fun c hc => h c (by simp [hc])
    have h1 := (barB_and (h b (by simp))).2.2.2.2.2
    rw [kct_cons, List.length_cons]
    split <;> omega
theorem kct_none {l : List Bar} {d x : Int} (h : hasC l d x = false) : kct l d x = 0 := by
  unfold kct
  have : l.filter (inC d x) = [] := by
    rw [List.filter_eq_nil_iff]
    intro b hb
    unfold hasC at h
    have := List.any_eq_false.1 h b hb
    simpa using this
  rw [this]; rfl
theorem kct_pos : ∀ {l : List Bar} {d x : Int}, (∀ b ∈ l, barB b = true) → hasC l d x = true → 1 ≤ kct l d x
  | [], d, x, h, k => by simp [hasC] at k
  | b :: r, d, x, h, k => by
    have h1 := (barB_and (h b (by simp))).2.2.2.2.2
    have h2 := kct_bd (l := r) d x fun c hc => h c (by simp [hc])
    rw [kct_cons]
    cases hb : inC d x b
    · have k2 : hasC r d x = true := by simpa [hasC, hb] using k
      have := kct_pos (l := r) (fun c hc => h c (by simp [hc])) k2
      simp; omega
    · simp; omega
/-- The cutting lengths of a size, descending. -/
def pcK (l : List Bar) (d : Int) : List Int := ((List.range 1048577).reverse.map fun n : Nat => (n : Int)).filter (hasC l d)
def pcs (l : List Bar) (d : Int) : List S2 := (pcK l d).map fun x => (x, kct l d x)
theorem pcK_desc (l : List Bar) (d : Int) : (pcK l d).Pairwise (· > ·) := by
  unfold pcK
  refine List.Pairwise.filter _ (List.pairwise_map.2 (List.pairwise_reverse.2 ?_))
  exact List.pairwise_lt_range.imp fun h => by omega
theorem pcK_mem {l : List Bar} {d x : Int} (h : ∀ b ∈ l, barB b = true) : x ∈ pcK l d ↔ hasC l d x = true := by
  unfold pcK
  rw [List.mem_filter, List.mem_map]
  constructor
  · exact fun k => k.2
  · intro k
    refine ⟨?_, k⟩
    obtain ⟨b, hb, e⟩ := List.any_eq_true.1 k
    unfold inC at e
    simp only [Bool.and_eq_true, beq_iff_eq] at e
    have := cut_bd (h b hb)
    exact ⟨x.toNat, List.mem_reverse.2 (List.mem_range.2 (by omega)), by omega⟩
theorem desc_uniq : ∀ {xs ys : List Int}, xs.Pairwise (· > ·) → ys.Pairwise (· > ·) → (∀ x, x ∈ xs ↔ x ∈ ys) → xs = ys
  | [], [], _, _, _ => rfl
  | [], y :: r, _, _, h => by have := (h y).2 (by simp); cases this
  | x :: r, [], _, _, h => by have := (h x).1 (by simp); cases this
  | x :: r, y :: t, h1, h2, h => by
    have a1 := List.pairwise_cons.1 h1
    have a2 := List.pairwise_cons.1 h2
    have e : x = y := by
      have k1 := (h x).1 (by simp)
      have k2 := (h y).2 (by simp)
      rcases List.mem_cons.1 k1 with e | e
      · exact e
      rcases List.mem_cons.1 k2 with e2 | e2
      · exact e2.symm
      have := a1.1 y e2
      have := a2.1 x e
      omega
    subst e
    congr 1
    refine desc_uniq a1.2 a2.2 fun z => ⟨fun hz => ?_, fun hz => ?_⟩
    · have := (h z).1 (by simp [hz])
      rcases List.mem_cons.1 this with e | e
      · have := a1.1 z hz; omega
      · exact e
    · have := (h z).2 (by simp [hz])
      rcases List.mem_cons.1 this with e | e
      · have := a2.1 z hz; omega
      · exact e
theorem pcK_le (l : List Bar) (d : Int) (h : ∀ b ∈ l, barB b = true) : (pcK l d).length ≤ l.length := by
  have hn : (pcK l d).Nodup := (pcK_desc l d).imp fun h => by omega
  have hs : pcK l d ⊆ l.map cutB := fun x hx => by
    obtain ⟨b, hb, e⟩ := List.any_eq_true.1 ((pcK_mem h).1 hx)
    unfold inC at e
    simp only [Bool.and_eq_true, beq_iff_eq] at e
    exact List.mem_map.2 ⟨b, hb, e.2⟩
  have := hn.length_le_of_subset hs
  simpa using this
theorem keyed3 : Keyed Tryz.prog 3 := int_keyed Tryz.underlying3
theorem zero3 (w : World) : (zeroValue 3).run Tryz.prog w = .ok (.int .i64 0) w := by kernel_rfl
theorem i64_wf {n : Int} (h0 : -9223372036854775808 ≤ n) (h1 : n ≤ 9223372036854775807) : (Lit.int .i64 n).wf = true := by
  simp [Lit.wf, IntKind.min, IntKind.max, IntKind.bits, IntKind.signed]; omega
/-- The map of numbers by lengths, when the bars l are counted. -/
def Mpk (w : World) (b n : Nat) (l : List Bar) (d : Int) : Prop := ∃ D : DataW Unit, w.ownsMap Tryz.prog 3 (plainElem Tryz.prog 3) b n D ∧ IsMap D ∧ (∀ x, has D (.int .i64 x) = hasC l d x) ∧ ∀ x, D.atKey (.int .i64 x) (.lit (.int .i64 0)) = .lit (.int .i64 (kct l d x))
theorem Mpk.made (w : World) (d : Int) : Mpk (w.alloc (.map #[] 0)) w.heap.size 0 [] d :=
  ⟨.map [], World.ownsMap_made _ _ _ _, isMap_empty, fun x => rfl, fun x => rfl⟩
theorem Mpk.on {w w1 : World} {b n : Nat} {l : List Bar} {d : Int} (h : Mpk w b n l d) (hb : Below w.heap.size w w1) : Mpk w1 b n l d := by
  obtain ⟨D, ⟨es, clock, hw, F, hs, hD⟩, hm, hk⟩ := h
  exact ⟨D, ⟨es, clock, (hb.block b (Array.getElem?_eq_some_iff.1 hw).1).trans hw, F, hs, hD⟩, hm, hk⟩
theorem Mpk.same {w w1 : World} {b n : Nat} {l : List Bar} {d : Int} (h : Mpk w b n l d) (hb : w1.heap[b]? = w.heap[b]?) : Mpk w1 b n l d := by
  obtain ⟨D, ⟨es, clock, hw, F, hs, hD⟩, hm, hk⟩ := h
  exact ⟨D, ⟨es, clock, hb.trans hw, F, hs, hD⟩, hm, hk⟩
theorem Mpk.lt {w : World} {b n : Nat} {l : List Bar} {d : Int} (h : Mpk w b n l d) : b < w.heap.size := by
  obtain ⟨D, ⟨es, clock, hw, F, hs, hD⟩, hm, hk⟩ := h
  exact (Array.getElem?_eq_some_iff.1 hw).1
theorem Mpk.more {w : World} {b n m : Nat} {l : List Bar} {d : Int} (h : Mpk w b n l d) (hm : n ≤ m) : Mpk w b m l d := by
  obtain ⟨D, ⟨es, clock, hw, F, hs, hD⟩, hm', hk⟩ := h
  exact ⟨D, ⟨es, clock, hw, F, by omega, hD⟩, hm', hk⟩
theorem Mpk.look {w : World} {b n : Nat} {l : List Bar} {d x : Int} (h : Mpk w b n l d) (h0 : -9223372036854775808 ≤ x) (h1 : x ≤ 9223372036854775807) :
    (Instr.lookup 87 (.map (some b)) (.int .i64 x) false).run Tryz.prog w = .ok (.int .i64 (kct l d x)) w := by
  obtain ⟨D, ho, hm, hx, hk⟩ := h
  obtain ⟨c, hrun, hat, hwc⟩ := ho.lookup_int keyed3 Tryz.underlying87 Tryz.underlying3 (zero3 w) (keyOf_int_mk Tryz.underlying3 (i64_wf h0 h1))
  rw [hk x] at hat
  cases hat
  exact hrun
/-- A bar of another size. -/
theorem Mpk.skip {w : World} {b n : Nat} {l : List Bar} {d : Int} {c : Bar} (h : Mpk w b n l d) (hc : c.size ≠ d) : Mpk w b (n + 1) (l ++ [c]) d := by
  have e : ∀ x, inC d x c = false := fun x => by simp [inC, hc]
  obtain ⟨D, ho, hm, hx, hk⟩ := h.more (m := n + 1) (by omega)
  exact ⟨D, ho, hm, fun x => by rw [has_snoc, e, Bool.or_false]; exact hx x, fun x => by rw [kct_snoc, e, hk x]; simp⟩
theorem Mpk.put {w : World} {b n : Nat} {l : List Bar} {d y : Int} {c : Bar} (h : Mpk w b n l d) (hc : c.size = d) (hn : n ≤ 100000) (h0 : -9223372036854775808 ≤ cutB c) (h1 : cutB c ≤ 9223372036854775807)
    (hy : y = kct l d (cutB c) + c.count) (y0 : -9223372036854775808 ≤ y) (y1 : y ≤ 9223372036854775807) :
    ∃ w', (Instr.mapUpdate 87 (.map (some b)) (.int .i64 (cutB c)) (.int .i64 y)).run Tryz.prog w = .ok () w' ∧ Mpk w' b (n + 1) (l ++ [c]) d ∧ w.grownBy w' (some b) := by
  obtain ⟨D, ho, hm, hx, hk⟩ := h
  obtain ⟨w', hrun, ho', hg⟩ := ho.update keyed3 Tryz.underlying87 (by unfold maxLen; omega) (keyOf_int_mk Tryz.underlying3 (i64_wf h0 h1)) (plainElem_int Tryz.underlying3 (i64_wf y0 y1))
  refine ⟨w', hrun, ⟨_, ho', hm.put _ _, fun x => ?_, fun x => ?_⟩, hg⟩
  · rw [has_snoc]
    by_cases e : x = cutB c
    · subst e
      rw [has_put_same hm (by trivial)]
      simp [inC, hc]
    · have hne : (Lit.int .i64 x) ≠ Lit.int .i64 (cutB c) := by intro e2; cases e2; exact e rfl
      rw [has_put_other hne, hx x]
      have : inC d x c = false := by simp [inC, Ne.symm e]
      rw [this, Bool.or_false]
  · rw [kct_snoc]
    by_cases e : x = cutB c
    · subst e
      rw [atKey_put_same hm (by trivial), hy]
      have : inC d (cutB c) c = true := by simp [inC, hc]
      rw [this]; simp
    · have hne : (Lit.int .i64 x) ≠ Lit.int .i64 (cutB c) := by intro e2; cases e2; exact e rfl
      rw [atKey_put_other hne, hk x]
      have : inC d x c = false := by simp [inC, Ne.symm e]
      rw [this]; simp
/-- The keys, sorted. -/
theorem Mpk.keys {w : World} {b n : Nat} {l : List Bar} {d : Int} (h : Mpk w b n l d) (hv : ∀ b ∈ l, barB b = true) (hn : n ≤ 1000) :
    Calls Tryz.prog 53 #[.func (.func 91) #[] #[.pointer (some ⟨w.heap.size, 0, none⟩)]] (w.alloc (.cells #[.map (some b)] 87)) fun e w' => ∃ v, e = .returned v ∧
      OwnI (w.alloc (.cells #[.map (some b)] 87)).heap.size w' v (pcK l d).reverse ∧ Below (w.alloc (.cells #[.map (some b)] 87)).heap.size (w.alloc (.cells #[.map (some b)] 87)) w' := by
  obtain ⟨D, ho, hm, hx, hk⟩ := h
  have hs := ho.size_le
  refine (Tryz.sorted_keys b n D _ w ho (by unfold maxLen; omega) (by omega)).mono fun e w' ⟨v, ss, he, hp, hr, hnil, hb⟩ => ⟨v, he, ?_, hb⟩
  have hnd : (pcK l d).reverse.Nodup := List.pairwise_reverse.2 ((pcK_desc l d).imp fun h => by omega)
  have hC : CollectedI D (fun _ => false) (pcK l d).reverse := ⟨hnd, fun x => by rw [List.mem_reverse, pcK_mem hv, hx x]; simp⟩
  have hp2 : ss.Perm (pcK l d).reverse := hp.trans (hC.perm ho keyed3 Tryz.underlying3 fun _ => rfl).symm
  have e1 : ss.mergeSort (fun x y => decide (x ≤ y)) = (pcK l d).reverse := by
    rw [mergeSort_of_perm_i hp2]
    refine List.mergeSort_of_pairwise (List.pairwise_reverse.2 ((pcK_desc l d).imp fun {a b} h => ?_))
    simp only [leI, decide_eq_true_eq]; omega
  rw [e1] at hr
  unfold OwnI
  rw [← hp2.length_eq]
  exact hr
end Go.Proofs.YthdafpbmmfelpaaGreatDoor
