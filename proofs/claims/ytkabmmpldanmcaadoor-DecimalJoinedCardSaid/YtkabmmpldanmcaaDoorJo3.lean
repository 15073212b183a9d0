/- What strings.Split, strings.Join and strings.HasPrefix do in DecimalJoined, and facts on the lists that it makes. -/
import Derived.Test.YtkabmmpldanmcaaDoorJo2
namespace Go.Proofs.YtkabmmpldanmcaaDoor
open Go.ChangeShapes Go.WideShapes Go.ChangeAt Go.RowKit
set_option linter.unusedVariables false

/-- A block that holds these lines. -/
def Lns (w : World) (g : Nat) (Ls : List (List UInt8)) : Prop := ∀ (i : Nat) L, Ls[i]? = some L → w.cell? ⟨g, i, none⟩ = some (.string ⟨L.toArray⟩)
def SplitRet (s : ByteArray) (w : World) (e : Ending) (w' : World) : Prop :=
  ∃ g : Nat, e = .returned (.slice (some ⟨g, 0, none⟩) (linesL s.data.toList).length (linesL s.data.toList).length) ∧ Below w.heap.size w w' ∧ g < w'.heap.size ∧ Lns w' g (linesL s.data.toList)

theorem split_ret (s : ByteArray) (m : Int) (w : World) (hs : s.size ≤ 1000) (hm : w.cell? ⟨0, 0, none⟩ = some (.int .i64 m)) : Calls Tryd.prog 6 #[.string s, .string ⟨#[10]⟩] w (SplitRet s w) := by
  refine (Tryd.strings_Split s ⟨#[10]⟩ m w (by omega) hm (by decide)).mono fun e w' ⟨he, hw⟩ => ?_
  have hl := Lib.splitB_all ⟨#[10]⟩ (by decide) 0 _ s rfl
  have hd : (Lib.splitB ⟨#[10]⟩ 0 (Lib.countB s ⟨#[10]⟩) s).map (·.data.toList) = linesL s.data.toList := Lib.splitB_data _ _ _ _
  generalize Lib.splitB ⟨#[10]⟩ 0 (Lib.countB s ⟨#[10]⟩) s = X at *
  have hlen : (linesL s.data.toList).length = Lib.countB s ⟨#[10]⟩ + 1 := by rw [← hd, List.length_map, hl]
  refine ⟨w.heap.size, by rw [he, hlen], by rw [hw]; exact (Below.refl _ _).alloc (Nat.le_refl _) _, by rw [hw]; simp, ?_⟩
  intro i L hL
  rw [hw, cell_of_row _ w.heap.size i _ 9 (0, 0) (heap_alloc_new w _)]
  rw [← hd] at hL
  simp only [List.getElem?_map, Option.map_eq_some_iff] at hL
  obtain ⟨x, hx, rfl⟩ := hL
  simp [hx]

theorem join_ret (xs : List ByteArray) (v : Value) (B : Nat) (w : World) (h0 : 0 < xs.length) (hN : xs.length ≤ 2000) (hown : w.ownsRow B 9 1 v xs.length (xs.map Value.string)) (hlen : (Lib.join (xs.map (·.data.toList)) [32]).length ≤ 2000) :
    Calls Tryd.prog 8 #[v, .string ⟨#[32]⟩] w fun e w' => e = .returned (.string ⟨(Lib.join (xs.map (·.data.toList)) [32]).toArray⟩) ∧ Below w.heap.size w w' := by
  rcases hown.2 with ⟨_, h1⟩ | ⟨g, cap, cur, rfl, hg, hh, hn, hc, hz, ht⟩
  · omega
  · have hlt := (Array.getElem?_eq_some_iff.1 hh).1
    unfold maxLen at hc
    refine Tryd.strings_Join g 0 cap xs ⟨#[32]⟩ w ?_ hlt (by omega) hn (by show (Lib.join _ [32]).length ≤ _; omega)
    intro j x hx
    rw [Nat.zero_add, cell_of_row w g j cur 9 (0, 0) hh]
    have h2 : (cur.toList.take (xs.length * 1))[j]? = some (Value.string x) := by rw [ht]; simp [hx]
    rw [List.getElem?_take] at h2
    split at h2
    · simpa using h2
    · cases h2

theorem prefix_yes (L t : ByteArray) (c : Nat) (w : World) (h : t.data.toList.isPrefixOf (L.data.toList.drop c) = true) :
    Calls Tryd.prog 7 #[.string (L.extract c L.size), .string t] w fun e w' => e = .returned (.bool true) ∧ w' = w := by
  refine (Tryd.strings_HasPrefix _ _ w).mono fun e w' ⟨he, hw⟩ => ⟨?_, hw⟩
  rw [he, Lib.extract_to_end]
  show Ending.returned (.bool (t.data.toList.isPrefixOf (L.data.toList.drop c))) = _
  rw [h]

theorem toks_last (f : Nat) : ∀ (l : List UInt8) (ln co : Nat) (ts : List Tok), toks f l ln co = .good ts → ∃ q t, ts = q ++ [t] ∧ t.kind = 5 := by
  induction f with
  | zero => intro l ln co ts h; simp [toks] at h; exact ⟨[], _, h.symm, rfl⟩
  | succ f ih =>
    intro l ln co ts h
    cases l with
    | nil => simp [toks] at h; exact ⟨[], _, h.symm, rfl⟩
    | cons c r =>
      rw [toks] at h
      split at h
      · cases h
      · split at h
        · exact ih _ _ _ _ h
        · split at h
          · obtain ⟨l2, hr, rfl⟩ := put_good h
            obtain ⟨q, t, rfl, hk⟩ := ih _ _ _ _ hr
            exact ⟨_ :: q, t, rfl, hk⟩
          · obtain ⟨l2, hr, rfl⟩ := put_good h
            obtain ⟨q, t, rfl, hk⟩ := ih _ _ _ _ hr
            exact ⟨_ :: q, t, rfl, hk⟩

theorem lines_bound : ∀ l : List UInt8, (linesL l).length ≤ l.length + 1 ∧ ∀ L ∈ linesL l, L.length ≤ l.length
  | [] => by rw [linesL_nil]; simp
  | c :: r => by
    obtain ⟨h1, h2⟩ := lines_bound r
    by_cases hc : c = 10
    · subst hc
      rw [linesL_nl]
      refine ⟨by simp; omega, fun L hL => ?_⟩
      simp only [List.mem_cons] at hL
      rcases hL with rfl | hL
      · simp
      · have := h2 L hL; simp; omega
    · rw [linesL_ne c r hc]
      obtain ⟨a, b, hab⟩ := linesL_pos r
      rw [hab] at h1 h2 ⊢
      refine ⟨by simp at *; omega, fun L hL => ?_⟩
      simp only [List.modifyHead_cons, List.mem_cons] at hL
      rcases hL with rfl | hL
      · have := h2 a (by simp); simp; omega
      · have := h2 L (by simp [hL]); simp; omega

theorem info9 : (Tryd.prog.info? 9).map (fun i => (i.zero, i.size, i.bytes)) = some (some (.string ⟨#[]⟩), 1, 16) := by kernel_rfl

/-- What is appended for a token. -/
def pieceB (t : Tok) : ByteArray := ⟨(piece t).toArray⟩
theorem pieces_snoc (ts : List Tok) (k : Nat) (h : k < ts.length) : (ts.take (k + 1)).map pieceB = (ts.take k).map pieceB ++ [pieceB ts[k]] := by
  rw [List.take_succ_eq_append_getElem h, List.map_append]; rfl
end Go.Proofs.YtkabmmpldanmcaaDoor
