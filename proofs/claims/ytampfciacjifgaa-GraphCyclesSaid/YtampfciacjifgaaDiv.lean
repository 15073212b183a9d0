/- Edges of the forest, and other ones: divide. -/
import Derived.Test.YtampfciacjifgaaEd
import Derived.WalkSpells
import Derived.Maps.AppendAt
namespace Go.Proofs.Ytampfciacjifgaa
open Go.ChangeShapes Go.WideShapes Go.ChangeAt Go.RowKit
set_option linter.unusedVariables false
set_option linter.unusedSimpArgs false

theorem Sets.on {w w1 : World} {g n : Nat} {R : Nat → Nat} (h : Sets w g n R) (hb : Below w.heap.size w w1) : Sets w1 g n R := by
  obtain ⟨p, k, r⟩ := h; exact ⟨p, Has.on k hb, r⟩
theorem Sets.grown_ {w w1 : World} {g n : Nat} {R : Nat → Nat} {row : Option Nat} (h : Sets w g n R) (hb : w.grownBy w1 row) (hg : some g ≠ row) : Sets w1 g n R := by
  obtain ⟨p, k, r⟩ := h; exact ⟨p, Has.grown_ k hb hg, r⟩

/-- What the loop of divide keeps: i edges joined, k of them listed. -/
structure Dv (w wr : World) (n : Nat) (l : List (Nat × Nat)) (i k : Nat) (v4 v5 : Value) : Prop where
  s : Sets wr w.heap.size n (pre l i)
  f : Own (w.heap.size + 1) wr v4 (inF l k)
  o : Own (w.heap.size + 1) wr v5 (outF l k)
  a : ∀ b, v4.ownBlock = some b → v5.ownBlock ≠ some b
  b : Below w.heap.size w wr
  z : w.heap.size + 1 ≤ wr.heap.size
theorem Dv.on {w wr w1 : World} {n : Nat} {l : List (Nat × Nat)} {i k : Nat} {v4 v5 : Value} (D : Dv w wr n l i k v4 v5) (hb : Below wr.heap.size wr w1) : Dv w w1 n l i k v4 v5 :=
  ⟨D.s.on hb, own_on D.f hb, own_on D.o hb, D.a, belows D.b hb, Nat.le_trans D.z hb.size⟩
theorem Dv.joined {w wr w1 : World} {n : Nat} {l : List (Nat × Nat)} {i k : Nat} {v4 v5 : Value} (D : Dv w wr n l i k v4 v5) (hi : i < l.length) (h : Sets w1 w.heap.size n (joinR (pre l i) l[i].1 l[i].2)) (A : At w.heap.size wr w1) : Dv w w1 n l (i + 1) k v4 v5 := by
  refine ⟨by rw [pre_next hi]; exact h, own_at D.f A ?_, own_at D.o A ?_, D.a, D.b.trans (A.below (Nat.le_refl _)), by rw [A.size]; exact D.z⟩
  · intro e; have := (D.f.lt _ e).1; omega
  · intro e; have := (D.o.lt _ e).1; omega
theorem Dv.fo {w wr w1 : World} {n : Nat} {l : List (Nat × Nat)} {i k : Nat} {v4 v5 v : Value} (D : Dv w wr n l i k v4 v5) (hj : joins l k = true)
    (h : w1.ownsRow (w.heap.size + 1) 3 1 v ((inF l k).length + 1) (ints (inF l k) ++ [.int .i64 (k : Int)])) (hg : wr.grownBy w1 v4.ownBlock) (hv : v.ownBlock = v4.ownBlock ∨ v.ownBlock = some wr.heap.size) : Dv w w1 n l i (k + 1) v v5 := by
  have e1 : inF l (k + 1) = inF l k ++ [k] := by rw [inF_next, hj]; rfl
  have e2 : outF l (k + 1) = outF l k := by rw [outF_next, hj]; simp
  refine ⟨D.s.grown_ hg ?_, ?_, ?_, ?_, ?_, Nat.le_trans D.z hg.size⟩
  · intro e; have := (D.f.lt _ e.symm).1; omega
  · rw [e1]; unfold Own; rw [ints_app, List.length_append]; exact h
  · rw [e2]
    refine World.ownsRow.kept D.o hg ?_
    cases hb : v5.ownBlock with
    | none => exact .inl rfl
    | some b => exact .inr fun e => D.a b e.symm hb
  · intro b hb
    rcases hv with h | h
    · exact D.a b (h ▸ hb)
    · rw [h] at hb
      intro hb5
      have := (D.o.lt _ hb5).2
      simp only [Option.some.injEq] at hb
      omega
  · refine D.b.grown hg (by have := D.z; omega) fun j hj => ?_
    have := (D.f.lt _ hj).1; omega
theorem Dv.ot {w wr w1 : World} {n : Nat} {l : List (Nat × Nat)} {i k : Nat} {v4 v5 v : Value} (D : Dv w wr n l i k v4 v5) (hj : joins l k = false)
    (h : w1.ownsRow (w.heap.size + 1) 3 1 v ((outF l k).length + 1) (ints (outF l k) ++ [.int .i64 (k : Int)])) (hg : wr.grownBy w1 v5.ownBlock) (hv : v.ownBlock = v5.ownBlock ∨ v.ownBlock = some wr.heap.size) : Dv w w1 n l i (k + 1) v4 v := by
  have e1 : inF l (k + 1) = inF l k := by rw [inF_next, hj]; simp
  have e2 : outF l (k + 1) = outF l k ++ [k] := by rw [outF_next, hj]; rfl
  refine ⟨D.s.grown_ hg ?_, ?_, ?_, ?_, ?_, Nat.le_trans D.z hg.size⟩
  · intro e; have := (D.o.lt _ e.symm).1; omega
  · rw [e1]
    refine World.ownsRow.kept D.f hg ?_
    cases hb : v4.ownBlock with
    | none => exact .inl rfl
    | some b => exact .inr fun e => D.a b hb e.symm
  · rw [e2]; unfold Own; rw [ints_app, List.length_append]; exact h
  · intro b hb
    rcases hv with h | h
    · rw [h]; exact D.a b hb
    · rw [h]
      intro hb5
      have := (D.f.lt _ hb).2
      simp only [Option.some.injEq] at hb5
      omega
  · refine D.b.grown hg (by have := D.z; omega) fun j hj => ?_
    have := (D.o.lt _ hj).1; omega

set_option maxRecDepth 100000 in
set_option maxHeartbeats 2000000 in
theorem divide_any (p : Option Addr) (n : Nat) (l : List (Nat × Nat)) (cap : Nat) (w : World) (hG : Gr w p n l) :
    Calls Try.prog 40 #[.int .i64 n, .slice p l.length cap] w fun e w' => ∃ v4 v5, e = .returned (.tuple #[v4, v5]) ∧ Own (w.heap.size + 1) w' v4 (inF l l.length) ∧ Own (w.heap.size + 1) w' v5 (outF l l.length) ∧ (∀ b, v4.ownBlock = some b → v5.ownBlock ≠ some b) ∧ Below w.heap.size w w' := by
  have hm := hG.2.1
  have hn := hG.2.2.1
  obtain ⟨i0, hi, hz0, hz1, hz2⟩ := info_parts info3
  go_enter Try.func40, Try.ntmps40
  go_wp2_with (go_at_call 37; (with_reducible refine (alone_any n _ hn).mono ?_); rintro e w1 ⟨rfl, h1, B1⟩)
  have D0 : Dv w w1 n l 0 0 (.slice none 0 0) (.slice none 0 0) := ⟨h1, World.ownsRow_nil _ _ _ _, World.ownsRow_nil _ _ _ _, (fun b h => by cases h), B1, h1.size_⟩
  clear h1 B1
  go_loopw [4, 5, 13] (fun v4 v5 v wr => ∃ k : Nat, v = .int .i64 k ∧ k ≤ l.length ∧ Hid (Dv w wr n l k k v4 v5)) (fun _ _ v _ => l.length - (intOf v).toNat)
  case atStart => exact ⟨0, rfl, Nat.zero_le _, Lib.hid D0⟩
  case round =>
    clear D0
    obtain ⟨k, rfl, hk, D⟩ := hrel
    by_cases hlt : k < l.length
    · have g : decide ((k : Int) < (l.length : Int)) = true := by simp [hlt]
      obtain ⟨a, rfl, c0, c1, l1, l2, -⟩ := (hG.on D.out.b).at hlt
      have W1 : IntKind.i64.wrap ((k : Int) + 1) = ((k + 1 : Nat) : Int) := by rw [IntWalk.i64_in _ (by omega)]; omega
      have E := D.out.on (al1 wr (.cells #[.int .i64 (l[k].1 : Nat), .int .i64 (l[k].2 : Nat)] 46))
      have C := Has.new_ wr 46 #[.int .i64 (l[k].1 : Nat), .int .i64 (l[k].2 : Nat)]
      have C0 := C.read 0
      have C1 := C.read 1
      have F0 := C.open_ 0
      have F1 := C.open_ 1
      cases hj : joins l k
      · have hj2 := hj
        rw [joins_at hlt] at hj2
        go_wp2_with (first
          | (go_at_call 38; (with_reducible refine (join_any w.heap.size n _ _ (pre l k) _ hn E.s l1 l2).mono ?_); rw [hj2]; rintro e w1 ⟨rfl, h1, A1⟩; have E1 := E.joined hlt h1 A1; clear C C0 C1 F0 F1 h1 A1)
          | (at_builtin; refine wpList_append_own_at _ rfl _ _ 29 rfl (w.heap.size + 1) 3 i0 _ 1 8 Try.underlying29 hi hz0 hz1 hz2 rfl (by decide) _ _ _ rfl ((E1.on (al1 _ _)).o) ⟨_, 0, none⟩ 1 1 [_] rfl rfl (cell_one_new _ _ _) (by simp [Value.oneCell']) (by have := outF_len l k; unfold maxLen; omega) (by have := outF_len l k; omega) (E1.on (al1 _ _)).z ?_))
        intro v' w2 o1 o2 o3 o4
        have E2 := (E1.on (al1 _ _)).ot hj o1 o2 (by simpa using o4)
        clear o1 o2 o3 o4
        go_wp2
        exact ⟨⟨k + 1, rfl, hlt, Lib.hid E2⟩, by simp [intOf]; omega⟩
      · have hj2 := hj
        rw [joins_at hlt] at hj2
        go_wp2_with (first
          | (go_at_call 38; (with_reducible refine (join_any w.heap.size n _ _ (pre l k) _ hn E.s l1 l2).mono ?_); rw [hj2]; rintro e w1 ⟨rfl, h1, A1⟩; have E1 := E.joined hlt h1 A1; clear C C0 C1 F0 F1 h1 A1)
          | (at_builtin; refine wpList_append_own_at _ rfl _ _ 29 rfl (w.heap.size + 1) 3 i0 _ 1 8 Try.underlying29 hi hz0 hz1 hz2 rfl (by decide) _ _ _ rfl ((E1.on (al1 _ _)).f) ⟨_, 0, none⟩ 1 1 [_] rfl rfl (cell_one_new _ _ _) (by simp [Value.oneCell']) (by have := inF_len l k; unfold maxLen; omega) (by have := inF_len l k; omega) (E1.on (al1 _ _)).z ?_))
        intro v' w2 o1 o2 o3 o4
        have E2 := (E1.on (al1 _ _)).fo hj o1 o2 (by simpa using o4)
        clear o1 o2 o3 o4
        go_wp2
        exact ⟨⟨k + 1, rfl, hlt, Lib.hid E2⟩, by simp [intOf]; omega⟩
    · have g : decide ((k : Int) < (l.length : Int)) = false := by simp; omega
      have e : k = l.length := by omega
      subst e
      go_wp2
      have d := D.out
      refine bodyPost_ret (v := .tuple #[_, _]) (by simp [results, Try.results40, go_sem]; exact ⟨rfl, rfl⟩) rfl ?_
      exact ⟨_, _, rfl, d.f, d.o, d.a, d.b⟩
end Go.Proofs.Ytampfciacjifgaa
