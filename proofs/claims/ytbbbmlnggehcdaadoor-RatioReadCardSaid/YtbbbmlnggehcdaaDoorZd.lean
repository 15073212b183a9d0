/- Lists of fractions: All. Lists of fractions: the program's Sum. Lists of fractions: the reference's Sum. Sums of lists of fractions: the pure part. -/
import Derived.Test.YtbbbmlnggehcdaaDoorRs3
import Derived.WalkSpells
import Derived.Test.YtbbbmlnggehcdaaDoorCom
import Derived.Test.YtbbbmlnggehcdaaDoorRx
import Derived.Deep.DeepCutAuto
namespace Go.Proofs.YtbbbmlnggehcdaaDoor
open Go.ChangeShapes Go.WideShapes Go.ChangeAt Go.RowKit
set_option linter.unusedVariables false
set_option linter.unusedSimpArgs false

/-- The fractions that lie in a row of cells. -/
def Fr (w : World) (a : Addr) (l : List (Int × Int)) : Prop := ∀ i (h : i < l.length), w.cell? (a.add (i * 2)) = some (.int .i64 l[i].1) ∧ w.cell? ⟨(a.add (i * 2)).block, (a.add (i * 2)).off + 1, none⟩ = some (.int .i64 l[i].2)
theorem Fr.on {w w1 : World} {a : Addr} {l : List (Int × Int)} (h : Fr w a l) (hb : Below w.heap.size w w1) : Fr w1 a l := fun i hi => ⟨cell_later hb (h i hi).1, cell_later hb (h i hi).2⟩
/-- A slice of fractions, nil or not. -/
def Sl (w : World) (p : Option Addr) (l : List (Int × Int)) : Prop := (p = none → l = []) ∧ (∀ a, p = some a → Fr w a l) ∧ l.length ≤ maxLen ∧ ∀ x ∈ l, I64 x.1 ∧ I64 x.2
theorem Sl.on {w w1 : World} {p : Option Addr} {l : List (Int × Int)} (h : Sl w p l) (hb : Below w.heap.size w w1) : Sl w1 p l := ⟨h.1, fun a ha => (h.2.1 a ha).on hb, h.2.2⟩
theorem Sl.at {w : World} {p : Option Addr} {l : List (Int × Int)} (h : Sl w p l) {k : Nat} (hk : k < l.length) : ∃ a, p = some a ∧ w.cell? (a.add (k * 2)) = some (.int .i64 l[k].1) ∧ w.cell? ⟨(a.add (k * 2)).block, (a.add (k * 2)).off + 1, none⟩ = some (.int .i64 l[k].2) := by
  cases p with
  | none => rw [h.1 rfl] at hk; simp at hk
  | some a => exact ⟨a, rfl, h.2.1 a rfl k hk⟩
def okF (x : Int × Int) : Bool := vB x.1 x.2
theorem take_ok {l : List (Int × Int)} {k : Nat} (hk : k < l.length) (h : ∀ x ∈ l.take k, okF x = true) (hv : okF l[k] = true) : ∀ x ∈ l.take (k + 1), okF x = true := by
  intro x hx
  rw [List.take_succ_eq_append_getElem hk, List.mem_append] at hx
  rcases hx with hx | hx
  · exact h x hx
  · rw [List.mem_singleton.1 hx]; exact hv

set_option maxRecDepth 100000 in
set_option maxHeartbeats 4000000 in
theorem all_any (p : Option Addr) (l : List (Int × Int)) (cap : Nat) (w : World) (hS : Sl w p l) :
    Calls Tryd.prog 32 #[.slice p l.length cap] w fun e w' => e = .returned (.bool (l.all okF)) ∧ Below w.heap.size w w' := by
  have hm := hS.2.2.1
  unfold maxLen at hm
  go_enter Tryd.func32, Tryd.ntmps32
  go_wp2
  go_loopw [3] (fun v wr => ∃ k : Nat, v = .int .i64 k ∧ k ≤ l.length ∧ Hid (∀ x ∈ l.take k, okF x = true) ∧ Hid (Sl wr p l) ∧ Below w.heap.size w wr) (fun v _ => l.length - (intOf v).toNat)
  case atStart => exact ⟨0, rfl, Nat.zero_le _, Lib.hid (by simp), Lib.hid hS, Below.refl _ _⟩
  case round =>
    obtain ⟨k, rfl, hk, hG, hL, hB⟩ := hrel
    by_cases hlt : k < l.length
    · have g : decide ((k : Int) < (l.length : Int)) = true := by simp [hlt]
      obtain ⟨a, rfl, c0, c1⟩ := hL.out.at hlt
      obtain ⟨i1, i2⟩ := hS.2.2.2 l[k] (List.getElem_mem hlt)
      have W1 : IntKind.i64.wrap ((k : Int) + 1) = ((k + 1 : Nat) : Int) := by rw [IntWalk.i64_in _ (by omega)]; omega
      cases hv : okF l[k]
      · go_wp2_with (go_at_call 18; refine (rvalid_any _ _ _ i1.1 i1.2 i2.1 i2.2).mono ?_; (simp only [show vB l[k].1 l[k].2 = false from hv]); rintro e w1 ⟨rfl, hb⟩)
        go_ret
        have e : l.all okF = false := List.all_eq_false.2 ⟨_, List.getElem_mem hlt, by simp [hv]⟩
        exact ⟨congrArg (fun b => Ending.returned (.bool b)) e.symm, belows hB hb⟩
      · go_wp2_with (go_at_call 18; refine (rvalid_any _ _ _ i1.1 i1.2 i2.1 i2.2).mono ?_; (simp only [show vB l[k].1 l[k].2 = true from hv]); rintro e w1 ⟨rfl, hb⟩)
        exact ⟨⟨k + 1, rfl, hlt, Lib.hid (take_ok hlt hG.out hv), Lib.hid (hL.out.on hb), belows hB hb⟩, by simp [intOf]; omega⟩
    · have g : decide ((k : Int) < (l.length : Int)) = false := by simp; omega
      go_wp2
      go_ret
      have := hG.out
      rw [List.take_of_length_le (by omega)] at this
      have e : l.all okF = true := List.all_eq_true.2 this
      exact ⟨congrArg (fun b => Ending.returned (.bool b)) e.symm, hB⟩
end Go.Proofs.YtbbbmlnggehcdaaDoor
namespace Go.Proofs.YtbbbmlnggehcdaaDoor
open Go.ChangeShapes Go.WideShapes Go.ChangeAt Go.RowKit
set_option linter.unusedVariables false
set_option linter.unusedSimpArgs false

def sumF : Int → Int → List (Int × Int) → Int × Int × Int
  | n, d, [] => (n, d, 0)
  | n, d, x :: l => if (addR n d x.1 x.2).2.2 = 0 then sumF (addR n d x.1 x.2).1 (addR n d x.1 x.2).2.1 l else (0, 0, (addR n d x.1 x.2).2.2)
def sumR (l : List (Int × Int)) : Int × Int × Int := if l.all okF then (if 1000 < l.length then (0, 0, 4) else sumF 0 1 l) else (0, 0, 1)
theorem drop_at {l : List (Int × Int)} {k : Nat} (hk : k < l.length) : l.drop k = l[k] :: l.drop (k + 1) := by rw [List.drop_eq_getElem_cons hk]
theorem sumF_next {n d : Int} {l : List (Int × Int)} {k : Nat} (hk : k < l.length) {x q : Int} (h : addR n d l[k].1 l[k].2 = (x, q, 0)) : sumF n d (l.drop k) = sumF x q (l.drop (k + 1)) := by
  rw [drop_at hk]; simp only [sumF, h, if_true]
theorem sumF_stop {n d : Int} {l : List (Int × Int)} {k : Nat} (hk : k < l.length) {x q e : Int} (h : addR n d l[k].1 l[k].2 = (x, q, e)) (he : e ≠ 0) : sumF n d (l.drop k) = (0, 0, e) := by
  rw [drop_at hk]; simp only [sumF, h]; rw [if_neg he]

theorem Env.tl {w0 w : World} {x : Fb} {l : List Fb} (h : Env w0 w (x :: l)) : Env w0 w l := ⟨h.1, h.2.2⟩
theorem env_put {w0 w : World} {g : Nat} {n d x y : Int} (E : Env w0 w [⟨g, n, d⟩, ⟨w0.heap.size, x, y⟩]) (hg : w0.heap.size < g) (a b : Int) :
    Env w0 ((w.setCell ⟨g, 0, none⟩ (.int .i64 a)).setCell ⟨g, 1, none⟩ (.int .i64 b)) [⟨g, a, b⟩, ⟨w0.heap.size, x, y⟩] :=
  ⟨(E.1.setCell (by simp; omega) _).setCell (by simp; omega) _, (E.2.1.put_ 0 _).put_ 1 _, (E.2.2.1.apart_ (by simp; omega) _).apart_ (by simp; omega) _, trivial⟩

set_option maxRecDepth 100000 in
set_option maxHeartbeats 4000000 in
theorem sum_any (p : Option Addr) (l : List (Int × Int)) (cap : Nat) (w : World) (hS : Sl w p l) {x q e0 : Int} (hr : sumR l = (x, q, e0)) :
    Calls Tryd.prog 31 #[.slice p l.length cap] w fun e w' => e = .returned (.tuple #[.agg #[.int .i64 x, .int .i64 q], .int .i64 e0]) ∧ Below w.heap.size w w' := by
  have hm := hS.2.2.1
  unfold maxLen at hm
  have HR := Lib.hid hr
  clear hr
  have E0 := env_one w 0 0
  have C0 := E0.cells
  simp only [BC] at C0
  go_enter Tryd.func31, Tryd.ntmps31
  go_wp2
  go_loopw [13] (fun v wr => ∃ k : Nat, v = .int .i64 k ∧ k ≤ l.length ∧ Hid (∀ x ∈ l.take k, okF x = true) ∧ Hid (Sl wr p l) ∧ Env w wr [⟨w.heap.size, 0, 0⟩]) (fun v _ => l.length - (intOf v).toNat)
  case atStart => exact ⟨0, rfl, Nat.zero_le _, Lib.hid (by simp), Lib.hid (hS.on (al1 _ _)), E0⟩
  case round =>
    clear E0 C0
    obtain ⟨k, rfl, hk, hG, hL, E⟩ := hrel
    have C := E.cells
    simp only [BC] at C
    have F := Has.open_ E.2.1 0
    have F' := Has.open_ E.2.1 1
    by_cases hlt : k < l.length
    · have g : decide ((k : Int) < (l.length : Int)) = true := by simp [hlt]
      obtain ⟨a, rfl, c0, c1⟩ := hL.out.at hlt
      obtain ⟨i1, i2⟩ := hS.2.2.2 l[k] (List.getElem_mem hlt)
      have W1 : IntKind.i64.wrap ((k : Int) + 1) = ((k + 1 : Nat) : Int) := by rw [IntWalk.i64_in _ (by omega)]; omega
      cases hv : okF l[k]
      · have e : l.all okF = false := List.all_eq_false.2 ⟨_, List.getElem_mem hlt, by simp [hv]⟩
        obtain ⟨rfl, rfl, rfl⟩ : 0 = x ∧ 0 = q ∧ 1 = e0 := by have h := HR.out; unfold sumR at h; rw [e] at h; simpa using h
        go_wp2_with (go_at_call 17; refine (valid_any _ _ _ i1.1 i1.2 i2.1 i2.2).mono ?_; (simp only [show vB l[k].1 l[k].2 = false from hv]); rintro e w1 ⟨rfl, hb⟩; replace E := (E.add _ _).on hb; clear C F F'; have C := E.cells; simp only [BC] at C; have F := Has.open_ E.2.2.1 0; have F' := Has.open_ E.2.2.1 1)
        refine bodyPost_ret (v := .tuple #[.agg #[.int .i64 0, .int .i64 0], .int .i64 1]) (by simp [results, Tryd.results31, go_sem, C]) rfl ⟨rfl, ?_⟩
        exact (E.1.setCell (by simp) _).setCell (by simp) _
      · go_wp2_with (go_at_call 17; refine (valid_any _ _ _ i1.1 i1.2 i2.1 i2.2).mono ?_; (simp only [show vB l[k].1 l[k].2 = true from hv]); rintro e w1 ⟨rfl, hb⟩)
        exact ⟨⟨k + 1, rfl, hlt, Lib.hid (take_ok hlt hG.out hv), Lib.hid ((hL.out.on (al1 _ _)).on hb), (E.on (al1 _ _)).on hb⟩, by simp [intOf]; omega⟩
    · have g : decide ((k : Int) < (l.length : Int)) = false := by simp; omega
      have e : l.all okF = true := by
        have := hG.out
        rw [List.take_of_length_le (by omega)] at this
        exact List.all_eq_true.2 this
      by_cases hx : 1000 < l.length
      · have g2 : decide ((1000 : Int) < (l.length : Int)) = true := by simp; omega
        obtain ⟨rfl, rfl, rfl⟩ : 0 = x ∧ 0 = q ∧ 4 = e0 := by have h := HR.out; unfold sumR at h; rw [e, if_pos rfl, if_pos hx] at h; simpa using h
        go_wp2
        refine bodyPost_ret (v := .tuple #[.agg #[.int .i64 0, .int .i64 0], .int .i64 4]) (by simp [results, Tryd.results31, go_sem, C]) rfl ⟨rfl, ?_⟩
        exact (E.1.setCell (by simp) _).setCell (by simp) _
      · have g2 : decide ((1000 : Int) < (l.length : Int)) = false := by simp; omega
        have hs : sumF 0 1 l = (x, q, e0) := by have h := HR.out; unfold sumR at h; rw [e, if_pos rfl, if_neg hx] at h; exact h
        clear HR
        go_wp2
        have E2 : Env w (wr.alloc (.cells #[.int .i64 0, .int .i64 1] 23)) [⟨wr.heap.size, 0, 1⟩, ⟨w.heap.size, 0, 0⟩] := E.add _ _
        have L2 := Lib.hid (hL.out.on (al1 wr (.cells #[.int .i64 0, .int .i64 1] 23)))
        have dd := E.2.1.size_
        go_loopw [29] (fun v ws => ∃ (k : Nat) (n d : Int), v = .int .i64 k ∧ k ≤ l.length ∧ Hid (sumF n d (l.drop k) = (x, q, e0)) ∧ V n d ∧ Hid (Sl ws p l) ∧ Env w ws [⟨wr.heap.size, n, d⟩, ⟨w.heap.size, 0, 0⟩]) (fun v _ => l.length - (intOf v).toNat)
        case atStart => exact ⟨0, 0, 1, rfl, Nat.zero_le _, Lib.hid hs, by unfold V; decide, L2, E2⟩
        case round =>
          clear E E2 C F F' hL
          obtain ⟨k, n, d, rfl, hk, hT, v, hL, E⟩ := hrel
          have C := E.cells
          simp only [BC] at C
          have F1 := Has.open_ E.2.1 0
          have F2 := Has.open_ E.2.1 1
          have F3 := Has.open_ E.2.2.1 0
          have F4 := Has.open_ E.2.2.1 1
          by_cases hlt : k < l.length
          · have g : decide ((k : Int) < (l.length : Int)) = true := by simp [hlt]
            obtain ⟨a, rfl, c0, c1⟩ := hL.out.at hlt
            obtain ⟨i1, i2⟩ := hS.2.2.2 l[k] (List.getElem_mem hlt)
            have W1 : IntKind.i64.wrap ((k : Int) + 1) = ((k + 1 : Nat) : Int) := by rw [IntWalk.i64_in _ (by omega)]; omega
            have h4 : All4 n d l[k].1 l[k].2 := ⟨(V_b v).1, (V_b v).2, i1, i2⟩
            rcases c_add n d l[k].1 l[k].2 with ⟨x1, q1, RA, va, vb, v1, -⟩ | ⟨e1, he1, RA⟩
            · have nx := sumF_next hlt RA
              go_wp2_with (go_at_call 21; refine (add_any _ _ _ _ _ h4 RA).mono ?_; rintro e w1 ⟨rfl, hb⟩; replace E := (E.add _ _).on hb; clear C F1 F2 F3 F4; have C := E.cells; simp only [BC] at C; have F1 := Has.open_ E.2.2.1 0; have F2 := Has.open_ E.2.2.1 1)
              have E3 := (env_put E.tl dd x1 q1).on (al1 _ (.cells #[.int .i64 x1, .int .i64 q1] 23))
              exact ⟨⟨k + 1, x1, q1, rfl, hlt, Lib.hid (nx.symm.trans hT.out), v1, Lib.hid (hS.on E3.1), E3⟩, by simp [intOf]; omega⟩
            · have nx := sumF_stop hlt RA (by simpa using he1)
              obtain ⟨rfl, rfl, rfl⟩ : 0 = x ∧ 0 = q ∧ e1 = e0 := by have h := hT.out; rw [nx] at h; simpa using h
              go_wp2_with (go_at_call 21; refine (add_any _ _ _ _ _ h4 RA).mono ?_; rintro e w1 ⟨rfl, hb⟩; replace E := (E.add _ _).on hb; clear C F1 F2 F3 F4; have C := E.cells; simp only [BC] at C; have F3 := Has.open_ E.2.2.2.1 0; have F4 := Has.open_ E.2.2.2.1 1)
              refine bodyPost_ret (v := .tuple #[.agg #[.int .i64 0, .int .i64 0], .int .i64 e1]) (by simp [results, Tryd.results31, go_sem, C]) rfl ⟨rfl, ?_⟩
              exact al ((E.1.setCell (by simp) _).setCell (by simp) _) _
          · have g : decide ((k : Int) < (l.length : Int)) = false := by simp; omega
            obtain ⟨rfl, rfl, rfl⟩ : n = x ∧ d = q ∧ 0 = e0 := by have h := hT.out; rw [List.drop_of_length_le (by omega)] at h; simpa [sumF] using h
            go_wp2
            refine bodyPost_ret (v := .tuple #[.agg #[.int .i64 n, .int .i64 d], .int .i64 0]) (by simp [results, Tryd.results31, go_sem, C]) rfl ⟨rfl, ?_⟩
            exact (E.1.setCell (by simp) _).setCell (by simp) _
end Go.Proofs.YtbbbmlnggehcdaaDoor
namespace Go.Proofs.YtbbbmlnggehcdaaDoor
open Go.ChangeShapes Go.WideShapes Go.ChangeAt Go.RowKit
set_option linter.unusedVariables false
set_option linter.unusedSimpArgs false

theorem of57 (n : Int) (w : World) : Calls Tryd.prog 57 #[.int .i64 n] w fun e w' => e = .returned (.agg #[.int .i64 n, .int .i64 1]) ∧ Below w.heap.size w w' := by
  go_enter Tryd.func57, Tryd.ntmps57
  go_wp2
  refine bodyPost_ret (v := .agg #[.int .i64 n, .int .i64 1]) (by simp [results, Tryd.results57, go_sem]) rfl ⟨rfl, ?_⟩
  exact al1 _ _

theorem rs_k {w0 w : World} {a : Addr} {l : List (Int × Int)} {k g : Nat} {n d x y : Int} (hS : Sl w0 (some a) l) (hlt : k < l.length) (E : Env w0 w [⟨g, n, d⟩, ⟨w0.heap.size, x, y⟩]) :
    w.cell? ⟨g, 0, none⟩ = some (.int .i64 n) ∧ w.cell? ⟨g, 1, none⟩ = some (.int .i64 d) ∧ w.cell? (a.add (k * 2)) = some (.int .i64 l[k].1) ∧ w.cell? ⟨(a.add (k * 2)).block, (a.add (k * 2)).off + 1, none⟩ = some (.int .i64 l[k].2) ∧ Env w0 w [⟨g, n, d⟩, ⟨w0.heap.size, x, y⟩] :=
  ⟨E.2.1.read 0, E.2.1.read 1, ((hS.on E.1).2.1 a rfl k hlt).1, ((hS.on E.1).2.1 a rfl k hlt).2, E⟩
theorem Env.al_ {w0 w : World} {l : List Fb} (h : Env w0 w l) (o : Obj) : Env w0 (w.alloc o) l := h.on (al1 _ _)
theorem Env.dr_ {w0 w : World} {l : List Fb} (h : Env w0 w l) : Env w0 w.drew l := h.on (Dr.below' ⟨1, rfl⟩)
theorem env_far {w0 w : World} {g N : Nat} {n d x y : Int} (E : Env w0 w [⟨g, n, d⟩, ⟨w0.heap.size, x, y⟩]) (h1 : g < N) (h2 : w0.heap.size < N) (a b : Value) :
    Env w0 ((w.setCell ⟨N, 0, none⟩ a).setCell ⟨N, 1, none⟩ b) [⟨g, n, d⟩, ⟨w0.heap.size, x, y⟩] :=
  ⟨(E.1.setCell (by simp; omega) _).setCell (by simp; omega) _, (E.2.1.apart_ (by simp; omega) _).apart_ (by simp; omega) _, (E.2.2.1.apart_ (by simp; omega) _).apart_ (by simp; omega) _, trivial⟩
def Mf (w : World) (N : Nat) : Prop := Has w N 23 #[.int .i64 0, .int .i64 0]
theorem Mf.cells {w : World} {N : Nat} (m : Mf w N) : w.cell? ⟨N, 0, none⟩ = some (.int .i64 0) ∧ w.cell? ⟨N, 1, none⟩ = some (.int .i64 0) ∧ w.frozen? ⟨N, 0, none⟩ = false ∧ w.frozen? ⟨N, 1, none⟩ = false ∧ N < w.heap.size :=
  ⟨Has.read m 0, Has.read m 1, Has.open_ m 0, Has.open_ m 1, Has.size_ m⟩
theorem mf1 {W w1 : World} (hb : Below (W.alloc (.cells #[.int .i64 0, .int .i64 0] 23)).heap.size (W.alloc (.cells #[.int .i64 0, .int .i64 0] 23)) w1) : Mf w1 W.heap.size := (Has.new_ _ _ _).on hb
theorem mf1d {W w1 : World} (hb : Below (W.alloc (.cells #[.int .i64 0, .int .i64 0] 23)).drew.heap.size (W.alloc (.cells #[.int .i64 0, .int .i64 0] 23)).drew w1) : Mf w1 W.heap.size := (Has.drew_ (Has.new_ _ _ _)).on hb
theorem Mf.put {w : World} {N : Nat} (m : Mf w N) (a b : Value) : Has ((w.setCell ⟨N, 0, none⟩ a).setCell ⟨N, 1, none⟩ b) N 23 #[a, b] := (Has.put_ m 0 a).put_ 1 b
theorem env_cons {w0 w : World} {g : Nat} {a b : Int} {l : List Fb} (h : Has w g 23 #[.int .i64 a, .int .i64 b]) (E : Env w0 w l) : Env w0 w (⟨g, a, b⟩ :: l) := ⟨E.1, h, E.2⟩

set_option maxRecDepth 100000 in
set_option maxHeartbeats 8000000 in
theorem rsum_ok (p : Option Addr) (l : List (Int × Int)) (cap : Nat) (w : World) (hS : Sl w p l) (hv : l.all okF = true) {x q e0 : Int} (hr : (if 1000 < l.length then (0, 0, 4) else sumF 0 1 l) = (x, q, e0)) :
    Calls Tryd.prog 33 #[.slice p l.length cap] w fun e w' => e = .returned (.tuple #[.agg #[.int .i64 x, .int .i64 q], .int .i64 e0]) ∧ Below w.heap.size w w' := by
  have hm := hS.2.2.1
  unfold maxLen at hm
  have E0 := env_one w 0 0
  have C0 := E0.cells
  simp only [BC] at C0
  by_cases hx : 1000 < l.length
  · have g2 : decide ((1000 : Int) < (l.length : Int)) = true := by simp; omega
    obtain ⟨rfl, rfl, rfl⟩ : 0 = x ∧ 0 = q ∧ 4 = e0 := by rw [if_pos hx] at hr; simpa using hr
    go_enter Tryd.func33, Tryd.ntmps33
    go_wp2
    refine bodyPost_ret (v := .tuple #[.agg #[.int .i64 0, .int .i64 0], .int .i64 4]) (by simp [results, Tryd.results33, go_sem, C0]) rfl ⟨rfl, ?_⟩
    exact E0.1
  · have g2 : decide ((1000 : Int) < (l.length : Int)) = false := by simp; omega
    have hs : sumF 0 1 l = (x, q, e0) := by rw [if_neg hx] at hr; exact hr
    clear hr
    go_enter Tryd.func33, Tryd.ntmps33
    go_wp2_with (go_at_call 57; refine (of57 _ _).mono ?_; rintro e wz ⟨rfl, hb⟩; replace E0 := E0.on hb; clear hb)
    have E2 : Env w (wz.alloc (.cells #[.int .i64 0, .int .i64 1] 23)) [⟨wz.heap.size, 0, 1⟩, ⟨w.heap.size, 0, 0⟩] := E0.add _ _
    have dd := E0.2.1.size_
    go_loopw [5] (fun v wr => ∃ (k : Nat) (n d : Int), v = .int .i64 k ∧ k ≤ l.length ∧ Hid (sumF n d (l.drop k) = (x, q, e0)) ∧ V n d ∧ Env w wr [⟨wz.heap.size, n, d⟩, ⟨w.heap.size, 0, 0⟩]) (fun v _ => l.length - (intOf v).toNat)
    case atStart => exact ⟨0, 0, 1, rfl, Nat.zero_le _, Lib.hid hs, by unfold V; decide, E2⟩
    case round =>
      clear E0 E2 C0
      obtain ⟨k, n, d, rfl, hk, hT, v, E⟩ := hrel
      have C := E.cells
      simp only [BC] at C
      have F1 := Has.open_ E.2.1 0
      have F2 := Has.open_ E.2.1 1
      have F3 := Has.open_ E.2.2.1 0
      have F4 := Has.open_ E.2.2.1 1
      by_cases hlt : k < l.length
      · have g : decide ((k : Int) < (l.length : Int)) = true := by simp [hlt]
        obtain ⟨a, rfl, c0, c1⟩ := (hS.on E.1).at hlt
        have vx : V l[k].1 l[k].2 := vB_t.1 (List.all_eq_true.1 hv _ (List.getElem_mem hlt))
        have W1 : IntKind.i64.wrap ((k : Int) + 1) = ((k + 1 : Nat) : Int) := by rw [IntWalk.i64_in _ (by omega)]; omega
        obtain ⟨r1, r2, r3, RA⟩ : ∃ r1 r2 r3, addQ n d l[k].1 l[k].2 = (r1, r2, r3) := ⟨_, _, _, rfl⟩
        have hA := fun W => radd_ok n d l[k].1 l[k].2 W v vx RA
        have gW : wz.heap.size < wr.heap.size := E.2.1.size_
        go_upto_region 7 with fail
        go_cut [6, 7] (fun s t wx => ∃ g : Nat, s = .pointer (some ⟨g, 0, none⟩) ∧ t = .int .i64 r3 ∧ wz.heap.size < g ∧ Env w wx [⟨g, r1, r2⟩, ⟨wz.heap.size, n, d⟩, ⟨w.heap.size, 0, 0⟩])
        case first =>
          go_region_held3 (fun w' => w'.cell? ⟨wz.heap.size, 0, none⟩ = some (.int .i64 n) ∧ w'.cell? ⟨wz.heap.size, 1, none⟩ = some (.int .i64 d) ∧ w'.cell? (a.add (k * 2)) = some (.int .i64 l[k].1) ∧ w'.cell? ⟨(a.add (k * 2)).block, (a.add (k * 2)).off + 1, none⟩ = some (.int .i64 l[k].2) ∧ Env w w' [⟨wz.heap.size, n, d⟩, ⟨w.heap.size, 0, 0⟩])
            (first | ((with_reducible refine rs_k hS hlt ?_); (repeat' (first | with_reducible exact Q1 | with_reducible exact E | with_reducible refine Env.al_ ?_ _ | with_reducible refine Env.dr_ ?_ | with_reducible refine env_far ?_ ?_ ?_ _ _)); all_goals (first | omega | (simp only [World.size_alloc, World.size_drew]; omega))) | (with_reducible (go_split_ands; assumption)) | go_keep)
            (first | (go_at_call 26; (with_reducible refine (hA _).mono ?_); rintro e w1 ⟨rfl, hb⟩; have Q1 : Env w w1 [⟨wz.heap.size, n, d⟩, ⟨w.heap.size, 0, 0⟩] := (by with_reducible exact Env.on (by go_split_ands; assumption) hb); have L1 : wz.heap.size < w1.heap.size := Q1.2.1.size_; (first | ((with_reducible have M := mf1 hb); obtain ⟨a0, a1, a2, a3, a4⟩ := M.cells) | ((with_reducible have M := mf1d hb); obtain ⟨a0, a1, a2, a3, a4⟩ := M.cells) | skip)))
          all_goals (rename_i hH; clear hH)
          all_goals (go_wp2_with fail)
          all_goals go_meet
          all_goals refine ⟨_, rfl, rfl, ?_, env_cons ?_ ?_⟩
          all_goals (repeat' (first | with_reducible exact Q1 | with_reducible refine Env.al_ ?_ _ | with_reducible refine Env.dr_ ?_ | with_reducible refine env_far ?_ ?_ ?_ _ _ | with_reducible exact Mf.put M _ _ | (with_reducible refine Has.newx_ ?_ ?_; (focus rfl); (first | with_reducible rfl | (simp only [World.size_alloc]; done) | (simp; done))) | with_reducible refine Has.drew_ ?_))
          all_goals first | assumption | omega
        case rest =>
          clear C F1 F2 F3 F4 c0 c1
          obtain ⟨g6, rfl, rfl, lt6, E6⟩ := hcut
          have C := E6.cells
          simp only [BC] at C
          have F1 := Has.open_ E6.2.2.1 0
          have F2 := Has.open_ E6.2.2.1 1
          have F3 := Has.open_ E6.2.2.2.1 0
          have F4 := Has.open_ E6.2.2.2.1 1
          by_cases he : r3 = 0
          · subst he
            have RA' : addR n d l[k].1 l[k].2 = (r1, r2, 0) := (c_addR v vx).trans RA
            have nx := sumF_next hlt RA'
            have v1 : V r1 r2 := by
              rcases c_add n d l[k].1 l[k].2 with ⟨x1, q1, RB, va, vb, v1, -⟩ | ⟨e1, he1, RB⟩
              · rw [RB] at RA'; simp only [Prod.mk.injEq] at RA'; obtain ⟨rfl, rfl, -⟩ := RA'; exact v1
              · rw [RB] at RA'; simp only [Prod.mk.injEq] at RA'; obtain ⟨-, -, rfl⟩ := RA'; simp at he1
            go_wp2
            have E3 := env_put E6.tl dd r1 r2
            exact ⟨⟨k + 1, r1, r2, rfl, hlt, Lib.hid (nx.symm.trans hT.out), v1, E3⟩, by simp [intOf]; omega⟩
          · have he' : (r3 == 0) = false := by simp [he]
            have nx := sumF_stop hlt ((c_addR v vx).trans RA) he
            obtain ⟨rfl, rfl, rfl⟩ : 0 = x ∧ 0 = q ∧ r3 = e0 := by have h := hT.out; rw [nx] at h; simpa using h
            go_wp2
            refine bodyPost_ret (v := .tuple #[.agg #[.int .i64 0, .int .i64 0], .int .i64 r3]) (by simp [results, Tryd.results33, go_sem, C]) rfl ⟨rfl, ?_⟩
            exact (E6.1.setCell (by simp) _).setCell (by simp) _
      · have g : decide ((k : Int) < (l.length : Int)) = false := by simp; omega
        obtain ⟨rfl, rfl, rfl⟩ : n = x ∧ d = q ∧ 0 = e0 := by have h := hT.out; rw [List.drop_of_length_le (by omega)] at h; simpa [sumF] using h
        go_wp2
        refine bodyPost_ret (v := .tuple #[.agg #[.int .i64 n, .int .i64 d], .int .i64 0]) (by simp [results, Tryd.results33, go_sem, C]) rfl ⟨rfl, ?_⟩
        exact (E.1.setCell (by simp) _).setCell (by simp) _
end Go.Proofs.YtbbbmlnggehcdaaDoor
namespace Go.Proofs.YtbbbmlnggehcdaaDoor
set_option linter.unusedVariables false
set_option linter.unusedSimpArgs false

def Dl : List (Int × Int) → Int
  | [] => 1
  | x :: l => x.2 * Dl l
def Nl : List (Int × Int) → Int
  | [] => 0
  | x :: l => x.1 * Dl l + Nl l * x.2
def AllV (l : List (Int × Int)) : Prop := ∀ x ∈ l, V x.1 x.2
theorem allV_of {l : List (Int × Int)} (h : l.all okF = true) : AllV l := fun x hx => vB_t.1 (List.all_eq_true.1 h x hx)
theorem allV_to {l : List (Int × Int)} (h : AllV l) : l.all okF = true := List.all_eq_true.2 fun x hx => vB_t.2 (h x hx)
theorem Dl_pos : ∀ {l : List (Int × Int)}, AllV l → 0 < Dl l
  | [], _ => by simp [Dl]
  | x :: l, h => Int.mul_pos (V0 (h x (by simp))) (Dl_pos fun y hy => h y (by simp [hy]))
theorem Dl_app : ∀ (l m : List (Int × Int)), Dl (l ++ m) = Dl l * Dl m
  | [], m => by simp [Dl]
  | x :: l, m => by simp only [List.cons_append, Dl, Dl_app l m]; grind
theorem Nl_app : ∀ (l m : List (Int × Int)), Nl (l ++ m) = Nl l * Dl m + Nl m * Dl l
  | [], m => by simp [Dl, Nl]
  | x :: l, m => by simp only [List.cons_append, Nl, Dl, Dl_app l m, Nl_app l m]; grind
theorem Dl_rev : ∀ (l : List (Int × Int)), Dl l.reverse = Dl l
  | [] => rfl
  | x :: l => by simp only [List.reverse_cons, Dl_app, Dl, Dl_rev l]; grind
theorem Nl_rev : ∀ (l : List (Int × Int)), Nl l.reverse = Nl l
  | [] => rfl
  | x :: l => by simp only [List.reverse_cons, Nl_app, Dl, Nl, Nl_rev l, Dl_rev l]; grind
theorem sumF_spec : ∀ (l : List (Int × Int)) (n d : Int), AllV l → V n d →
    (∃ x q, sumF n d l = (x, q, 0) ∧ V x q ∧ x * (d * Dl l) = q * (n * Dl l + Nl l * d)) ∨ sumF n d l = (0, 0, 5)
  | [], n, d, _, v => .inl ⟨n, d, rfl, v, by simp only [Dl, Nl]; grind⟩
  | x :: l, n, d, h, v => by
    have vx := h x (by simp)
    have hl : AllV l := fun y hy => h y (by simp [hy])
    have eA : addR n d x.1 x.2 = mk (n * x.2 + x.1 * d) (d * x.2) := c_addR v vx
    rcases mk_spec (n * x.2 + x.1 * d) (d * x.2) (VV v vx) with ⟨a, b, e, vab, k⟩ | ⟨e, -⟩
    · rw [e] at eA
      have es : sumF n d (x :: l) = sumF a b l := by simp only [sumF, eA, if_true]
      rw [es]
      rcases sumF_spec l a b hl vab with ⟨y, q, e1, vy, k1⟩ | e1
      · refine .inl ⟨y, q, e1, vy, ?_⟩
        have hb := V0 vab
        simp only [Dl, Nl]
        refine Int.eq_of_mul_eq_mul_right (show b ≠ 0 by omega) ?_
        grind
      · exact .inr e1
    · rw [e] at eA
      exact .inr (by simp only [sumF, eA]; rfl)
theorem sumF_app : ∀ (l m : List (Int × Int)) (n d : Int) {x q : Int}, sumF n d (l ++ m) = (x, q, 0) → ∃ a b, sumF n d l = (a, b, 0)
  | [], m, n, d, x, q, _ => ⟨n, d, rfl⟩
  | y :: l, m, n, d, x, q, h => by
    simp only [List.cons_append, sumF] at h ⊢
    split at h
    · rename_i k
      rw [if_pos k]
      exact sumF_app l m _ _ h
    · rename_i k
      simp only [Prod.mk.injEq] at h
      exact absurd h.2.2 k
theorem V01 : V 0 1 := by unfold V; decide
theorem sumF_val {l : List (Int × Int)} (h : AllV l) {x q : Int} (e : sumF 0 1 l = (x, q, 0)) : V x q ∧ x * Dl l = q * Nl l := by
  rcases sumF_spec l 0 1 h V01 with ⟨a, b, e1, v, k⟩ | e1
  · rw [e] at e1; simp only [Prod.mk.injEq] at e1; obtain ⟨rfl, rfl, -⟩ := e1
    exact ⟨v, by grind⟩
  · rw [e] at e1; simp at e1
theorem sum_parts {l : List (Int × Int)} (h : AllV l) (k : Nat) {x q a b c d : Int} (e : sumF 0 1 l = (x, q, 0)) (e1 : sumF 0 1 (l.take k) = (a, b, 0)) (e2 : sumF 0 1 (l.drop k) = (c, d, 0)) :
    addR a b c d = (x, q, 0) := by
  have h1 : AllV (l.take k) := fun y hy => h y (List.mem_of_mem_take hy)
  have h2 : AllV (l.drop k) := fun y hy => h y (List.mem_of_mem_drop hy)
  obtain ⟨v, s⟩ := sumF_val h e
  obtain ⟨v1, s1⟩ := sumF_val h1 e1
  obtain ⟨v2, s2⟩ := sumF_val h2 e2
  have p1 := Dl_pos h1
  have p2 := Dl_pos h2
  have eD := Dl_app (l.take k) (l.drop k)
  have eN := Nl_app (l.take k) (l.drop k)
  rw [List.take_append_drop] at eD eN
  rw [c_addR v1 v2]
  refine mk_of (VV v1 v2) v ?_
  have p := Int.mul_pos p1 p2
  refine Int.eq_of_mul_eq_mul_right (show Dl (l.take k) * Dl (l.drop k) ≠ 0 by omega) ?_
  rw [eD, eN] at s
  generalize Dl (l.take k) = D1 at *
  generalize Dl (l.drop k) = D2 at *
  generalize Nl (l.take k) = N1 at *
  generalize Nl (l.drop k) = N2 at *
  grind
theorem sum_rev {l : List (Int × Int)} (h : AllV l) {x q : Int} (e : sumF 0 1 l = (x, q, 0)) : sumF 0 1 l.reverse = (x, q, 0) ∨ sumF 0 1 l.reverse = (0, 0, 5) := by
  have hr : AllV l.reverse := fun y hy => h y (List.mem_reverse.1 hy)
  rcases sumF_spec l.reverse 0 1 hr V01 with ⟨a, b, e1, v1, -⟩ | e1
  · obtain ⟨v, s⟩ := sumF_val h e
    obtain ⟨-, s1⟩ := sumF_val hr e1
    rw [Dl_rev, Nl_rev] at s1
    have p := Dl_pos h
    obtain ⟨rfl, rfl⟩ := V_eq v v1 (by
      refine Int.eq_of_mul_eq_mul_right (show Dl l ≠ 0 by omega) ?_
      grind)
    exact .inl e1
  · exact .inr e1
theorem sumR_zero {l : List (Int × Int)} {x q e : Int} (h : sumR l = (x, q, e)) (he : e ≠ 0) : x = 0 ∧ q = 0 := by
  unfold sumR at h
  split at h
  · rename_i ha
    split at h
    · simp only [Prod.mk.injEq] at h; omega
    · rcases sumF_spec l 0 1 (allV_of ha) V01 with ⟨a, b, e1, -⟩ | e1
      · rw [e1] at h; simp only [Prod.mk.injEq] at h; omega
      · rw [e1] at h; simp only [Prod.mk.injEq] at h; omega
  · simp only [Prod.mk.injEq] at h; omega
theorem sumR_ok {l : List (Int × Int)} {x q : Int} (h : sumR l = (x, q, 0)) : AllV l ∧ l.length ≤ 1000 ∧ sumF 0 1 l = (x, q, 0) := by
  unfold sumR at h
  split at h
  · rename_i ha
    split at h
    · simp at h
    · exact ⟨allV_of ha, by omega, h⟩
  · simp at h
theorem sumR_to {l : List (Int × Int)} (h : AllV l) (hl : l.length ≤ 1000) : sumR l = sumF 0 1 l := by
  unfold sumR; rw [if_pos (allV_to h), if_neg (by omega)]
end Go.Proofs.YtbbbmlnggehcdaaDoor
