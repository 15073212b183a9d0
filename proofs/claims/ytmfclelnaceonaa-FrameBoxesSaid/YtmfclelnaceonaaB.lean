/- Rows of points; sums. -/
import Derived.Test.YtmfclelnaceonaaA2
namespace Go.Proofs.Ytmfclelnaceonaa
open Go.ChangeShapes Go.WideShapes Go.ChangeAt Go.RowKit
set_option linter.unusedVariables false
set_option linter.unusedSimpArgs false

theorem lt_of_cell {w : World} {a : Addr} {v : Value} (h : w.cell? a = some v) : a.block < w.heap.size := by
  rcases Nat.lt_or_ge a.block w.heap.size with k | k
  · exact k
  · rw [World.cell?, Array.getElem?_eq_none k] at h; cases h
theorem cell_later {w w1 : World} (hb : Below w.heap.size w w1) {a : Addr} {v : Value} (h : w.cell? a = some v) : w1.cell? a = some v := by
  rw [hb.cell (lt_of_cell h)]; exact h
/-- The points that lie in a row of cells. -/
def Fr (w : World) (a : Addr) (l : List Pt) : Prop := ∀ i (h : i < l.length), w.cell? (a.add (i * 3)) = some (.int .i64 l[i].x) ∧ w.cell? ⟨(a.add (i * 3)).block, (a.add (i * 3)).off + 1, none⟩ = some (.int .i64 l[i].y) ∧ w.cell? ⟨(a.add (i * 3)).block, (a.add (i * 3)).off + 2, none⟩ = some (.int .i64 l[i].z)
theorem Fr.on {w w1 : World} {a : Addr} {l : List Pt} (h : Fr w a l) (hb : Below w.heap.size w w1) : Fr w1 a l := fun i hi => by
  obtain ⟨h0, h1, h2⟩ := h i hi
  exact ⟨cell_later hb h0, cell_later hb h1, cell_later hb h2⟩
/-- A slice of points, nil or not. -/
def Sl (w : World) (p : Option Addr) (l : List Pt) : Prop := (p = none → l = []) ∧ (∀ a, p = some a → Fr w a l) ∧ l.length ≤ maxLen
theorem Sl.on {w w1 : World} {p : Option Addr} {l : List Pt} (h : Sl w p l) (hb : Below w.heap.size w w1) : Sl w1 p l := ⟨h.1, fun a ha => (h.2.1 a ha).on hb, h.2.2⟩
theorem Sl.at {w : World} {p : Option Addr} {l : List Pt} (h : Sl w p l) {k : Nat} (hk : k < l.length) : ∃ a, p = some a ∧ w.cell? (a.add (k * 3)) = some (.int .i64 l[k].x) ∧ w.cell? ⟨(a.add (k * 3)).block, (a.add (k * 3)).off + 1, none⟩ = some (.int .i64 l[k].y) ∧ w.cell? ⟨(a.add (k * 3)).block, (a.add (k * 3)).off + 2, none⟩ = some (.int .i64 l[k].z) := by
  cases p with
  | none => rw [h.1 rfl] at hk; simp at hk
  | some a => exact ⟨a, rfl, h.2.1 a rfl k hk⟩
def pcells (l : List Pt) : List Value := l.flatMap fun p => p.cs.toList
theorem pcells_at : ∀ (l : List Pt) (k : Nat) (hk : k < l.length), (pcells l)[k * 3]? = some (.int .i64 l[k].x) ∧ (pcells l)[k * 3 + 1]? = some (.int .i64 l[k].y) ∧ (pcells l)[k * 3 + 2]? = some (.int .i64 l[k].z)
  | [], k, hk => by simp at hk
  | p :: l, 0, _ => by simp [pcells, Pt.cs]
  | p :: l, k + 1, hk => by
    have h := pcells_at l k (by simpa using hk)
    have e : pcells (p :: l) = .int .i64 p.x :: .int .i64 p.y :: .int .i64 p.z :: pcells l := by simp [pcells, Pt.cs]
    rw [e, show (k + 1) * 3 = k * 3 + 3 by omega, show k * 3 + 3 + 1 = k * 3 + 1 + 3 by omega, show k * 3 + 3 + 2 = k * 3 + 2 + 3 by omega]
    simpa using h
/-- A row of points that was just laid. -/
theorem Sl.lit {w : World} {g : Nat} {cs : Array Value} (l : List Pt) (h : Has w g 37 cs) (e : cs.toList = pcells l) (hl : l.length ≤ maxLen) : Sl w (some ⟨g, 0, none⟩) l := by
  refine ⟨fun h => (by cases h), fun a ha i hi => ?_, hl⟩
  cases ha
  obtain ⟨h0, h1, h2⟩ := pcells_at l i hi
  rw [← e, Array.getElem?_toList] at h0 h1 h2
  rw [Addr.add_lit, Nat.zero_add]
  exact ⟨by rw [h.read, h0], by rw [h.read, h1], by rw [h.read, h2]⟩
def sm (l : List Pt) : Pt := l.foldl ad ⟨0, 0, 0⟩
theorem sm_step {l : List Pt} {k : Nat} (hk : k < l.length) : sm (l.take (k + 1)) = ad (sm (l.take k)) l[k] := by
  rw [List.take_succ_eq_append_getElem hk, sm, List.foldl_append]; rfl
theorem ad_bd {p q : Pt} {L M : Int} (h : p.bd L) (k : q.bd M) : (ad p q).bd (L + M) := by
  unfold Pt.bd ad at *; dsimp only; omega
theorem sm_bd {l : List Pt} {M : Int} (h : ∀ x ∈ l, x.bd M) : ∀ k, k ≤ l.length → (sm (l.take k)).bd (k * M)
  | 0, _ => by simp [sm, Pt.bd]
  | k + 1, hk => by
    rw [sm_step (by omega)]
    have := ad_bd (sm_bd h k (by omega)) (h _ (List.getElem_mem (by omega : k < l.length)))
    have e : ((k + 1 : Nat) : Int) * M = k * M + M := by rw [Int.natCast_add, Int.add_mul]; simp
    rw [e]; exact this
theorem Pt.eta (p : Pt) : p.val = pv p.x p.y p.z := rfl
set_option maxHeartbeats 8000000 in
set_option maxRecDepth 100000 in
theorem sum_any (p : Option Addr) (l : List Pt) (cap : Nat) (w : World) (hS : Sl w p l) (hb : ∀ x ∈ l, x.bd 1000000000) (hl : l.length ≤ 3) :
    Calls Try.prog 46 #[.slice p l.length cap] w fun e w' => e = .returned (sm l).val ∧ Below w.heap.size w w' := by
  obtain ⟨T, hT⟩ : ∃ T : Nat → Pt, Hid (∀ k, T k = sm (l.take k)) := ⟨fun k => sm (l.take k), Lib.hid fun _ => rfl⟩
  have HS := Lib.hid hS
  have HB := Lib.hid hb
  have h0 : Hid (T 0 = ⟨0, 0, 0⟩) := Lib.hid (by rw [hT.out]; rfl)
  have hN : Hid (T l.length = sm l) := Lib.hid (by rw [hT.out, List.take_length])
  rw [← hN.out]
  have HT := Lib.hid (fun k (hk : k < l.length) => show T (k + 1) = ad (T k) l[k] by rw [hT.out, hT.out]; exact sm_step hk)
  have HD := Lib.hid (fun k (hk : k ≤ l.length) => show (T k).bd (k * 1000000000) by rw [hT.out]; exact sm_bd hb k hk)
  clear hT hS hb hN
  obtain ⟨n, hn⟩ : ∃ n, Hid (l.length = n) := ⟨_, Lib.hid rfl⟩
  rw [hn.out] at hl ⊢
  have E := ((Env.nil w).add w.heap.size 37 #[.int .i64 0, .int .i64 0, .int .i64 0] rfl).add (w.heap.size + 1) 37 #[.int .i64 0, .int .i64 0, .int .i64 0] (by simp)
  have C := E.cells
  simp [BC, CF] at C
  unfold Pt.val
  go_enter Try.func46, Try.ntmps46
  go_wp2
  go_loopw [9] (fun v wr => ∃ k : Nat, v = .int .i64 k ∧ k ≤ n ∧ Env w wr [⟨w.heap.size + 1, 37, (T k).cs⟩, ⟨w.heap.size, 37, #[.int .i64 0, .int .i64 0, .int .i64 0]⟩]) (fun v _ => n - (intOf v).toNat)
  case atStart => exact ⟨0, rfl, Nat.zero_le _, (by rw [h0.out]; exact E)⟩
  case round =>
    obtain ⟨k, rfl, hk, E⟩ := hrel
    have hD := HD.out k (by rw [hn.out]; exact hk)
    by_cases hlt : k < n
    · have hkl : k < l.length := by rw [hn.out]; exact hlt
      have g1 : decide ((k : Int) < (n : Int)) = true := by simp [hlt]
      obtain ⟨a, rfl, c0, c1, c2⟩ := (HS.out.on E.1).at hkl
      have hB := HB.out _ (List.getElem_mem hkl)
      have hR := Lib.hid (HT.out k hkl)
      obtain ⟨⟨x1, y1, z1⟩, hx⟩ : ∃ q, Hid (T k = q) := ⟨_, Lib.hid rfl⟩
      obtain ⟨⟨x2, y2, z2⟩, hy⟩ : ∃ q, Hid (l[k] = q) := ⟨_, Lib.hid rfl⟩
      rw [hx.out] at hD hR E
      rw [hy.out] at hB hR c0 c1 c2
      obtain ⟨d0, d1, d2⟩ := hD
      obtain ⟨e0, e1, e2⟩ := hB
      dsimp only [Pt.cs] at *
      have W1 : IntKind.i64.wrap ((k : Int) + 1) = ((k + 1 : Nat) : Int) := by rw [IntWalk.i64_in _ (by omega)]; omega
      have q1 : (0 : Int) ≤ (k : Int) := by omega
      have q2 : (k : Int) < (n : Int) := by omega
      have V0 : IntKind.i64.wrap (x1 + x2) = x1 + x2 := IntWalk.i64_in _ (by omega)
      have V1 : IntKind.i64.wrap (y1 + y2) = y1 + y2 := IntWalk.i64_in _ (by omega)
      have V2 : IntKind.i64.wrap (z1 + z2) = z1 + z2 := IntWalk.i64_in _ (by omega)
      have C := E.cells
      simp [BC, CF] at C
      clear d0 d1 d2 e0 e1 e2
      go_wp2
      refine ⟨⟨k + 1, rfl, hlt, ?_⟩, by simp [intOf]; omega⟩
      rw [hR.out]
      exact (E.three (.int .i64 (x1 + x2)) (.int .i64 (y1 + y2)) (.int .i64 (z1 + z2)) 0 rfl).more _
    · have hkn : k = n := by omega
      subst hkn
      have g1 : decide ((k : Int) < (k : Int)) = false := by simp
      obtain ⟨⟨x1, y1, z1⟩, hx⟩ : ∃ q, Hid (T k = q) := ⟨_, Lib.hid rfl⟩
      rw [hx.out] at E
      dsimp only [Pt.cs] at *
      have C := E.cells
      simp [BC, CF] at C
      clear hlt hD
      go_wp2
      exact bodyPost_ret (v := pv x1 y1 z1) (by simp [results, Try.results46, go_sem, pv, *]) rfl ⟨by rw [hx.out]; rfl, envb (E.three _ _ _ 1 rfl)⟩
end Go.Proofs.Ytmfclelnaceonaa
