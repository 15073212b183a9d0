/- Find and Zero. -/
import Derived.Test.YtepcokgpepcccaaDoorFst
namespace Go.Proofs.YtepcokgpepcccaaDoor
open Go.ChangeShapes Go.WideShapes Go.ChangeAt Go.RowKit
set_option linter.unusedVariables false
set_option linter.unusedSimpArgs false

theorem OwnZ.mono {B B' : Nat} {w : World} {v : Value} {zs : List Int} (h : OwnZ B' w v zs) (hb : B ≤ B') : OwnZ B w v zs := by
  obtain ⟨hl, h0 | ⟨g, cap, cur, rfl, hB, r⟩⟩ := h
  · exact ⟨hl, .inl h0⟩
  · exact ⟨hl, .inr ⟨g, cap, cur, rfl, Nat.le_trans hb hB, r⟩⟩
theorem OwnZ.on {B : Nat} {w w1 : World} {v : Value} {zs : List Int} (h : OwnZ B w v zs) (hb : Below w.heap.size w w1) : OwnZ B w1 v zs := own_on h hb
/-- What Find and Zero answer: a number of fault, or what first answers. -/
def gpost (w : World) (zs : List Int) (o : Option Nat) (e : Ending) (w' : World) : Prop :=
  Below w.heap.size w w' ∧ (fau zs ≠ 0 → e = .returned (.tuple #[.slice none 0 0, .int .i64 (fau zs)])) ∧ (fau zs = 0 → match o with
  | none => e = .returned (.tuple #[.slice none 0 0, .int .i64 12])
  | some b => ∃ v, e = .returned (.tuple #[v, .int .i64 0]) ∧ OwnZ w.heap.size w' v (toZ (ixs 10 b)))
theorem gpost_bad {w w' : World} {zs : List Int} {o : Option Nat} {e : Ending} (hb : Below w.heap.size w w') (h : fau zs ≠ 0) (he : e = .returned (.tuple #[.slice none 0 0, .int .i64 (fau zs)])) : gpost w zs o e w' := ⟨hb, fun _ => he, fun k => absurd k h⟩
theorem gpost_none {w w' : World} {zs : List Int} {o : Option Nat} {e : Ending} (hb : Below w.heap.size w w') (h : fau zs = 0) (ho : o = none) (he : e = .returned (.tuple #[.slice none 0 0, .int .i64 12])) : gpost w zs o e w' := ⟨hb, fun k => absurd h k, fun _ => by subst ho; exact he⟩
theorem gpost_some {w w' : World} {zs : List Int} {o : Option Nat} {e : Ending} {b : Nat} {v : Value} (hb : Below w.heap.size w w') (h : fau zs = 0) (ho : o = some b) (he : e = .returned (.tuple #[v, .int .i64 0])) (hv : OwnZ w.heap.size w' v (toZ (ixs 10 b))) : gpost w zs o e w' := ⟨hb, fun k => absurd h k, fun _ => by subst ho; exact ⟨v, he, hv⟩⟩
theorem fau_zero {zs : List Int} (h : fau zs = 0) : zs.length ≤ 16 ∧ allZ zs = true := by
  unfold fau at h
  split at h
  · cases h
  · split at h
    · rename_i h1 h2; exact ⟨by omega, h2⟩
    · cases h
theorem sumsOf_ex (u : Value) (zs : List Int) (w : World) (hR : Rdz w u zs) (hl : zs.length ≤ 10) (hz : allZ zs = true) :
    Calls Tryd.prog 39 #[u] w fun e w' => ∃ g, e = .returned (.slice (some ⟨g, 0, none⟩) (2 ^ zs.length) (2 ^ zs.length)) ∧ g < w'.heap.size ∧ OwnZ w.heap.size w' (.slice (some ⟨g, 0, none⟩) (2 ^ zs.length) (2 ^ zs.length)) (sums zs) ∧ Below w.heap.size w w' := by
  refine (sumsOf_any u zs w hR hl hz).mono ?_
  rintro e w' ⟨rfl, ho, hb⟩
  exact ⟨_, rfl, (World.ownsRow.lt ho _ rfl).2, ho, hb⟩
/-- Sets by a sum; sets by the sum 0, but for the empty one. -/
def bySum (zs : List Int) (sum : Int) (s : Nat) : Bool := (sums zs).getD s 0 == sum
def byZero (zs : List Int) (s : Nat) : Bool := s != 0 && (sums zs).getD s 0 == 0
set_option maxRecDepth 100000 in
set_option maxHeartbeats 4000000 in
theorem find_any (u : Value) (zs : List Int) (sum : Int) (w : World) (hR : Rdz w u zs) (hT : Tab w) (hl : fau zs = 0 → zs.length ≤ 10) :
    Calls Tryd.prog 19 #[u, .int .i64 sum] w (gpost w zs (fst (bySum zs sum) (2 ^ zs.length))) := by
  have hf := fun w h => fault_any u zs w h
  obtain ⟨o, ho⟩ : ∃ o, fst (bySum zs sum) (2 ^ zs.length) = o := ⟨_, rfl⟩
  rw [ho]
  have b0 := al1 w (.cells #[.int .i64 sum] 3)
  have cz : (w.alloc (.cells #[.int .i64 sum] 3)).cell? ⟨w.heap.size, 0, none⟩ = some (.int .i64 sum) := Has.read (Has.new_ w 3 #[.int .i64 sum]) 0
  go_enter Tryd.func19, Tryd.ntmps19
  by_cases h0 : fau zs = 0
  · rw [h0] at hf
    have hlen := hl h0
    have hz := (fau_zero h0).2
    have hN2 : 2 ^ zs.length ≤ 1024 := Nat.pow_le_pow_right (n := 2) (by omega) hlen
    have hs := fun w h => sumsOf_ex u zs w h hlen hz
    have hSl := sums_len zs
    go_wp2_with (first
      | (go_at_call 38; (with_reducible refine (hf _ (hR.on b0)).mono ?_); rintro e1 w1 ⟨rfl, rfl⟩)
      | (go_at_call 39; (with_reducible refine (hs _ (hR.on b0)).mono ?_); rintro e2 w2 ⟨g, rfl, hg, hO, hb2⟩))
    have b3 := al1 w2 (.cells #[.slice (some ⟨g, 0, none⟩) (2 ^ zs.length) (2 ^ zs.length)] 22)
    have b4 : Below w.heap.size w (w2.alloc (.cells #[.slice (some ⟨g, 0, none⟩) (2 ^ zs.length) (2 ^ zs.length)] 22)) := belows (belows b0 hb2) b3
    have h1 : (w2.alloc (.cells #[.slice (some ⟨g, 0, none⟩) (2 ^ zs.length) (2 ^ zs.length)] 22)).cell? ⟨w2.heap.size, 0, none⟩ = some (.slice (some ⟨g, 0, none⟩) (2 ^ zs.length) (2 ^ zs.length)) := Has.read (Has.new_ w2 22 _) 0
    have h2 := cell_later b3 (cell_later hb2 cz)
    have h3 : ∀ j (h : j < (sums zs).length), (w2.alloc (.cells #[.slice (some ⟨g, 0, none⟩) (2 ^ zs.length) (2 ^ zs.length)] 22)).cell? ((⟨g, 0, none⟩ : Addr).add j) = some (.int .i64 (sums zs)[j]) := fun j hj => by
      rw [Addr.add_lit, Nat.zero_add]; exact (hO.on b3).at_ hj
    have F := first_find (2 ^ zs.length) (2 ^ zs.length) w2.heap.size w.heap.size ⟨g, 0, none⟩ (sums zs) sum _ hN2 hSl (hT.on b4) h1 h2 h3
    rw [show fst (fun s => (sums zs).getD s 0 == sum) (2 ^ zs.length) = o from ho] at F
    have hle : w.heap.size ≤ (w2.alloc (.cells #[.slice (some ⟨g, 0, none⟩) (2 ^ zs.length) (2 ^ zs.length)] 22)).heap.size := b4.size
    clear h1 h2 h3 hs ho hO
    cases o with
    | none =>
      go_wp2_with (go_at_call 46; (with_reducible refine F.mono ?_); rintro e3 w3 ⟨hb5, rfl⟩)
      exact bodyPost_ret (v := .tuple #[.slice none 0 0, .int .i64 12]) (by simp [results, Tryd.results19, go_sem]) rfl (gpost_none (belows b4 hb5) h0 rfl rfl)
    | some b =>
      go_wp2_with (go_at_call 46; (with_reducible refine F.mono ?_); rintro e3 w3 ⟨hb5, v, rfl, hv⟩)
      exact bodyPost_ret (v := .tuple #[v, .int .i64 0]) (by simp [results, Tryd.results19, go_sem]) rfl (gpost_some (belows b4 hb5) h0 rfl rfl (hv.mono hle))
  · obtain ⟨f, ef⟩ : ∃ f, fau zs = f := ⟨_, rfl⟩
    have HB := fun e w' => gpost_bad (w := w) (w' := w') (zs := zs) (o := o) (e := e)
    rw [ef] at hf h0 HB
    have g : (f != 0) = true := by simp [h0]
    clear ef
    go_wp2_with (go_at_call 38; (with_reducible refine (hf _ (hR.on b0)).mono ?_); rintro e1 w1 ⟨rfl, rfl⟩)
    exact bodyPost_ret (v := .tuple #[.slice none 0 0, .int .i64 f]) (by simp [results, Tryd.results19, go_sem]) rfl (HB _ _ b0 h0 rfl)
set_option maxRecDepth 100000 in
set_option maxHeartbeats 4000000 in
theorem zero_any (u : Value) (zs : List Int) (w : World) (hR : Rdz w u zs) (hT : Tab w) (hl : fau zs = 0 → zs.length ≤ 10) :
    Calls Tryd.prog 20 #[u] w (gpost w zs (fst (byZero zs) (2 ^ zs.length))) := by
  have hf := fun w h => fault_any u zs w h
  obtain ⟨o, ho⟩ : ∃ o, fst (byZero zs) (2 ^ zs.length) = o := ⟨_, rfl⟩
  rw [ho]
  have b0 := Below.refl w.heap.size w
  go_enter Tryd.func20, Tryd.ntmps20
  by_cases h0 : fau zs = 0
  · rw [h0] at hf
    have hlen := hl h0
    have hz := (fau_zero h0).2
    have hN2 : 2 ^ zs.length ≤ 1024 := Nat.pow_le_pow_right (n := 2) (by omega) hlen
    have hs := fun w h => sumsOf_ex u zs w h hlen hz
    have hSl := sums_len zs
    go_wp2_with (first
      | (go_at_call 38; (with_reducible refine (hf _ hR).mono ?_); rintro e1 w1 ⟨rfl, hw⟩; subst w1)
      | (go_at_call 39; (with_reducible refine (hs _ hR).mono ?_); rintro e2 w2 ⟨g, rfl, hg, hO, hb2⟩))
    have b3 := al1 w2 (.cells #[.slice (some ⟨g, 0, none⟩) (2 ^ zs.length) (2 ^ zs.length)] 22)
    have b4 : Below w.heap.size w (w2.alloc (.cells #[.slice (some ⟨g, 0, none⟩) (2 ^ zs.length) (2 ^ zs.length)] 22)) := belows (belows b0 hb2) b3
    have h1 : (w2.alloc (.cells #[.slice (some ⟨g, 0, none⟩) (2 ^ zs.length) (2 ^ zs.length)] 22)).cell? ⟨w2.heap.size, 0, none⟩ = some (.slice (some ⟨g, 0, none⟩) (2 ^ zs.length) (2 ^ zs.length)) := Has.read (Has.new_ w2 22 _) 0
    have h3 : ∀ j (h : j < (sums zs).length), (w2.alloc (.cells #[.slice (some ⟨g, 0, none⟩) (2 ^ zs.length) (2 ^ zs.length)] 22)).cell? ((⟨g, 0, none⟩ : Addr).add j) = some (.int .i64 (sums zs)[j]) := fun j hj => by
      rw [Addr.add_lit, Nat.zero_add]; exact (hO.on b3).at_ hj
    have F := first_zero (2 ^ zs.length) (2 ^ zs.length) w2.heap.size ⟨g, 0, none⟩ (sums zs) _ hN2 hSl (hT.on b4) h1 h3
    rw [show fst (fun s => s != 0 && (sums zs).getD s 0 == 0) (2 ^ zs.length) = o from ho] at F
    have hle : w.heap.size ≤ (w2.alloc (.cells #[.slice (some ⟨g, 0, none⟩) (2 ^ zs.length) (2 ^ zs.length)] 22)).heap.size := b4.size
    clear h1 h3 hs ho hO
    cases o with
    | none =>
      go_wp2_with (go_at_call 46; (with_reducible refine F.mono ?_); rintro e3 w3 ⟨hb5, rfl⟩)
      exact bodyPost_ret (v := .tuple #[.slice none 0 0, .int .i64 12]) (by simp [results, Tryd.results20, go_sem]) rfl (gpost_none (belows b4 hb5) h0 rfl rfl)
    | some b =>
      go_wp2_with (go_at_call 46; (with_reducible refine F.mono ?_); rintro e3 w3 ⟨hb5, v, rfl, hv⟩)
      exact bodyPost_ret (v := .tuple #[v, .int .i64 0]) (by simp [results, Tryd.results20, go_sem]) rfl (gpost_some (belows b4 hb5) h0 rfl rfl (hv.mono hle))
  · obtain ⟨f, ef⟩ : ∃ f, fau zs = f := ⟨_, rfl⟩
    have HB := fun e w' => gpost_bad (w := w) (w' := w') (zs := zs) (o := o) (e := e)
    rw [ef] at hf h0 HB
    have g : (f != 0) = true := by simp [h0]
    clear ef
    go_wp2_with (go_at_call 38; (with_reducible refine (hf _ hR).mono ?_); rintro e1 w1 ⟨rfl, hw⟩; subst w1)
    exact bodyPost_ret (v := .tuple #[.slice none 0 0, .int .i64 f]) (by simp [results, Tryd.results20, go_sem]) rfl (HB _ _ b0 h0 rfl)
end Go.Proofs.YtepcokgpepcccaaDoor
