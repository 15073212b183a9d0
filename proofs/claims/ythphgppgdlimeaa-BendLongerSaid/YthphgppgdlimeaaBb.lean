/- Max, Dims, fit, size: contracts. -/
import Derived.Test.YthphgppgdlimeaaBa
import Derived.Lib.Strings
namespace Go.Proofs.Ythphgppgdlimeaa
open Go.ChangeShapes Go.WideShapes Go.ChangeAt Go.RowKit
set_option linter.unusedVariables false
set_option linter.unusedSimpArgs false

theorem cellLater {w w' : World} {a : Addr} {v : Value} (hb : Below w.heap.size w w') (h : w.cell? a = some v) : w'.cell? a = some v := by
  rcases Nat.lt_or_ge a.block w.heap.size with hl | hl
  · unfold World.cell? at h ⊢
    rw [hb.block a.block hl]; exact h
  · exfalso
    have : w.heap[a.block]? = none := Array.getElem?_eq_none hl
    unfold World.cell? at h
    rw [this] at h
    cases h
/-- A slice of whole numbers that can be read. -/
def Rdz (w : World) (v : Value) (zs : List Int) : Prop := ∃ q c, v = .slice q zs.length c ∧ ∀ j (h : j < zs.length), ∃ a, q = some a ∧ w.cell? (a.add j) = some (.int .i64 zs[j])
theorem Rdz.on {w w1 : World} {v : Value} {zs : List Int} (h : Rdz w v zs) (hb : Below w.heap.size w w1) : Rdz w1 v zs := by
  obtain ⟨q, c, rfl, k⟩ := h
  refine ⟨q, c, rfl, fun j hj => ?_⟩
  obtain ⟨g, e, hc⟩ := k j hj
  exact ⟨g, e, cellLater hb hc⟩
theorem Row.on {w w' : World} {g n : Nat} {f : Nat → Int} (h : Row w g n f) (hb : Below w.heap.size w w') : Row w' g n f := Has.on h hb
theorem Row.rdz {w : World} {g n m cap : Nat} {f : Nat → Int} (h : Row w g m f) (hn : n ≤ m) : Rdz w (.slice (some ⟨g, 0, none⟩) n cap) ((List.range n).map f) := by
  have e : n = ((List.range n).map f).length := by simp
  refine ⟨some ⟨g, 0, none⟩, cap, by rw [← e], fun j hj => ⟨_, rfl, ?_⟩⟩
  have hj' : j < n := by simpa using hj
  rw [Addr.add_lit, Nat.zero_add, Row.read h (by omega)]
  simp

def mxf (f : Nat → Int) : Nat → Int
  | 0 => f 0
  | k + 1 => max (mxf f k) (f (k + 1))
set_option maxRecDepth 100000 in
theorem max_any (g n m cap : Nat) (f : Nat → Int) (w : World) (hR : Row w g m f) (hn : 0 < n) (hm : n ≤ m) (hc : n ≤ 1000) :
    Calls Try.prog 69 #[.slice (some ⟨g, 0, none⟩) n cap] w fun e w' => e = .returned (.int .i64 (mxf f (n - 1))) ∧ w = w' := by
  have g0 : decide ((n : Int) < 1) = false := by simp; omega
  have d0 := Row.read hR (i := 0) (by omega)
  have q0 : (0 : Int) < (n : Int) := by omega
  have HR := Lib.hid hR
  clear hR
  go_enter Try.func69, Try.ntmps69
  go_wp2
  go_loop [3, 4] (fun v3 v4 => ∃ k : Nat, v3 = .int .i64 (mxf f k) ∧ v4 = .int .i64 (k + 1 : Nat) ∧ k < n) (fun _ v => n - (intOf v).toNat)
  case atStart => exact ⟨0, rfl, rfl, hn⟩
  case round =>
    obtain ⟨k, rfl, rfl, hk⟩ := hrel
    by_cases hlt : k + 1 < n
    · have g1 : decide (((k + 1 : Nat) : Int) < (n : Int)) = true := by simp; omega
      have W1 : IntKind.i64.wrap (((k + 1 : Nat) : Int) + 1) = ((k + 1 + 1 : Nat) : Int) := by rw [IntWalk.i64_in _ (by omega)]; omega
      have q1 : (0 : Int) ≤ ((k + 1 : Nat) : Int) := by omega
      have q2 : ((k + 1 : Nat) : Int) < (n : Int) := by omega
      have d1 := Row.read HR.out (i := k + 1) (by omega)
      go_wp2
      exact ⟨⟨k + 1, by simp [mxf]; split <;> omega, rfl, hlt⟩, by simp [intOf]; omega⟩
    · have g1 : decide (((k + 1 : Nat) : Int) < (n : Int)) = false := by simp; omega
      obtain rfl : n = k + 1 := by omega
      go_wp2
      go_ret
      exact ⟨rfl, rfl⟩
theorem bl (l : List UInt8) : (⟨l.toArray⟩ : ByteArray).toList = l := by rw [Lib.toList_data]
def mxd (c : Int) : Int := mxf (ixf c) (nl c - 1)
theorem mxd_eq {c : Int} (h : isC c = true) : 1 + mxd c = (ndim c : Nat) := by
  rcases code_in h with rfl | rfl | rfl | rfl | rfl | rfl | rfl | rfl <;> decide
set_option maxRecDepth 100000 in
theorem Dims_any (c : Int) (w : World) : Calls Try.prog 58 #[.int .i64 c] w fun e w' => e = .returned (.tuple #[.int .i64 (ndim c : Nat), .int .i64 (if isC c then 0 else 11)]) ∧ Below w.heap.size w w' := by
  have hd := fun W => dir_any c W
  cases h : isC c
  · rw [dirS_no h] at hd
    rw [ndim_no h]
    have he : (⟨([] : List UInt8).toArray⟩ : ByteArray).toList.isEmpty = true := by rw [bl]; rfl
    clear h
    generalize (⟨([] : List UInt8).toArray⟩ : ByteArray) = D at *
    go_enter Try.func58, Try.ntmps58
    go_wp2_with (go_at_call 66; (with_reducible refine (hd _).mono ?_); rintro e w1 ⟨rfl, rfl⟩)
    exact bodyPost_ret (v := .tuple #[.int .i64 0, .int .i64 11]) (by simp [results, Try.results58, go_sem]) rfl ⟨by simp, Below.refl _ _⟩
  · have hx := fun W => dims_any h W
    have hm := fun g W (k : Row W g (mc c) (ixf c)) => max_any g (nl c) (mc c) (mc c) (ixf c) W k (nl_pos h) (nl_mc h) (Nat.le_trans (nl_le h) (by decide))
    have he : (⟨(dirS c).toArray⟩ : ByteArray).toList.isEmpty = false := by
      rw [bl]; unfold isC at h; simpa using h
    have e1 := mxd_eq h
    have e2 : ndim c ≤ 5 := ndim_le c
    change ∀ g W, Row W g (mc c) (ixf c) → Calls Try.prog 69 #[.slice (some ⟨g, 0, none⟩) (nl c) (mc c)] W fun e w' => e = .returned (.int .i64 (mxd c)) ∧ W = w' at hm
    generalize (⟨(dirS c).toArray⟩ : ByteArray) = D at *
    generalize mxd c = X at *
    generalize nl c = n at *
    generalize mc c = m at *
    generalize ixf c = f at *
    generalize ndim c = d at *
    have W1 : IntKind.i64.wrap (1 + X) = (d : Int) := by rw [IntWalk.i64_in _ (by omega)]; omega
    go_enter Try.func58, Try.ntmps58
    go_wp2_with (first
      | (go_at_call 66; (with_reducible refine (hd _).mono ?_); rintro e w1 ⟨rfl, rfl⟩)
      | (go_at_call 54; (with_reducible refine (hx _).mono ?_); rintro e w1 ⟨g, rfl, hR, hb, hg⟩)
      | (go_at_call 69; (with_reducible refine (hm g _ hR).mono ?_); rintro e w2 ⟨rfl, rfl⟩))
    exact bodyPost_ret (v := .tuple #[.int .i64 d, .int .i64 0]) (by simp [results, Try.results58, go_sem]) rfl ⟨by simp, hb⟩
/-- All of them are positive, and together within a bound. -/
def fitB : Int → List Int → Bool
  | _, [] => true
  | b, x :: r => decide (1 ≤ x) && decide (x ≤ b) && fitB (b - x) r
theorem fitB_app : ∀ (l r : List Int) (b : Int), fitB b (l ++ r) = (fitB b l && fitB (b - l.sum) r)
  | [], r, b => by simp [fitB]
  | x :: l, r, b => by
    have e : b - x - l.sum = b - (x + l.sum) := by omega
    simp only [List.cons_append, fitB, fitB_app l r, List.sum_cons, Bool.and_assoc, e]
theorem fitB_sum : ∀ (l : List Int) (b : Int), 0 ≤ b → fitB b l = true → 0 ≤ l.sum ∧ l.sum ≤ b
  | [], b, h, _ => by simp; exact h
  | x :: l, b, h, k => by
    simp only [fitB, Bool.and_eq_true, decide_eq_true_eq] at k
    have := fitB_sum l (b - x) (by omega) k.2
    simp only [List.sum_cons]; omega
theorem fitB_mem : ∀ (l : List Int) (b : Int), fitB b l = true → 0 ≤ b → ∀ x ∈ l, 1 ≤ x ∧ x ≤ b
  | [], _, _, _, _, h => by cases h
  | y :: l, b, k, hb, x, h => by
    simp only [fitB, Bool.and_eq_true, decide_eq_true_eq] at k
    rcases List.mem_cons.1 h with rfl | h
    · omega
    · have := fitB_mem l (b - y) k.2 (by omega) x h; omega
theorem fitB_step {l : List Int} {k : Nat} (hk : k < l.length) {b : Int} (h : fitB b (l.take k) = true) : fitB b (l.take (k + 1)) = (decide (1 ≤ l[k]) && decide (l[k] ≤ b - (l.take k).sum)) := by
  rw [List.take_succ_eq_append_getElem hk, fitB_app, h]; simp [fitB]
theorem fitB_take {l : List Int} (k : Nat) {b : Int} (h : fitB b (l.take k) = false) : fitB b l = false := by
  rw [← List.take_append_drop k l, fitB_app, h]; rfl
set_option maxRecDepth 100000 in
theorem fit_any (v : Value) (zs : List Int) (w : World) (hR : Rdz w v zs) (hl : zs.length ≤ maxLen) :
    Calls Try.prog 59 #[v] w fun e w' => e = .returned (.bool (fitB 262144 zs)) ∧ w = w' := by
  unfold maxLen at hl
  obtain ⟨q, c, rfl, k1⟩ := hR
  have K1 := Lib.hid k1
  clear k1
  go_enter Try.func59, Try.ntmps59
  go_wp2
  go_loop [3, 8] (fun v3 v8 => ∃ (k : Nat) (s : Int), v8 = .int .i64 k ∧ v3 = .int .i64 s ∧ k ≤ zs.length ∧ 0 ≤ s ∧ s ≤ 262144 ∧ Hid (fitB 262144 (zs.take k) = true ∧ s = 262144 - (zs.take k).sum)) (fun _ v => zs.length - (intOf v).toNat)
  case atStart => exact ⟨0, 262144, rfl, rfl, Nat.zero_le _, by omega, by omega, Lib.hid ⟨rfl, rfl⟩⟩
  case round =>
    obtain ⟨k, s, rfl, rfl, hk, s0, s1, hG⟩ := hrel
    by_cases hlt : k < zs.length
    · have g1 : decide ((k : Int) < (zs.length : Int)) = true := by simp [hlt]
      have W1 : IntKind.i64.wrap ((k : Int) + 1) = ((k + 1 : Nat) : Int) := by rw [IntWalk.i64_in _ (by omega)]; omega
      have q1 : (0 : Int) ≤ (k : Int) := by omega
      have q2 : (k : Int) < (zs.length : Int) := by omega
      obtain ⟨a, rfl, d0⟩ := K1.out k hlt
      obtain ⟨y, hyy⟩ : ∃ y, y = zs[k] := ⟨_, rfl⟩
      have hs : Hid (fitB 262144 (zs.take (k + 1)) = (decide (1 ≤ y) && decide (y ≤ s)) ∧ (zs.take (k + 1)).sum = 262144 - s + y) := Lib.hid (by
        rw [fitB_step hlt hG.out.1, hyy, hG.out.2]
        refine ⟨rfl, ?_⟩
        rw [List.take_succ_eq_append_getElem hlt, List.sum_append]; simp; omega)
      rw [← hyy] at d0
      clear hyy hG
      by_cases e : y < 1
      · have t1 : decide (y < 1) = true := by simp [e]
        have HE : Hid (fitB 262144 zs = false) := Lib.hid (fitB_take (k + 1) (by rw [hs.out.1]; simp; omega))
        clear e hs
        go_wp2
        go_ret
        exact ⟨by rw [HE.out]; rfl, rfl⟩
      · have t1 : decide (y < 1) = false := by simp; omega
        by_cases e2 : s < y
        · have t2 : decide (s < y) = true := by simp [e2]
          have t3 : decide (y > s) = true := by simp; omega
          have HE : Hid (fitB 262144 zs = false) := Lib.hid (fitB_take (k + 1) (by rw [hs.out.1]; simp; omega))
          clear e e2 hs
          go_wp2
          go_ret
          exact ⟨by rw [HE.out]; rfl, rfl⟩
        · have t2 : decide (s < y) = false := by simp; omega
          have t3 : decide (y > s) = false := by simp; omega
          have W2 : IntKind.i64.wrap (s - y) = s - y := IntWalk.i64_in _ (by omega)
          have HG : Hid (fitB 262144 (zs.take (k + 1)) = true ∧ s - y = 262144 - (zs.take (k + 1)).sum) := Lib.hid ⟨by rw [hs.out.1]; simp; omega, by rw [hs.out.2]; omega⟩
          clear hs
          go_wp2
          exact ⟨⟨k + 1, s - y, rfl, rfl, hlt, by omega, by omega, HG⟩, by simp [intOf]; omega⟩
    · have g1 : decide ((k : Int) < (zs.length : Int)) = false := by simp; omega
      have HE : Hid (fitB 262144 zs = true) := Lib.hid (by
        have := hG.out.1
        rwa [List.take_of_length_le (by omega)] at this)
      go_wp2
      go_ret
      exact ⟨by rw [HE.out]; rfl, rfl⟩
def abz (n : Int) : Int := if n < 0 then -n else n
theorem size_any (n : Int) (w : World) (h : -1000000000 ≤ n ∧ n ≤ 1000000000) : Calls Try.prog 65 #[.int .i64 n] w fun e w' => e = .returned (.int .i64 (abz n)) ∧ w = w' := by
  have W1 : IntKind.i64.wrap (-n) = -n := IntWalk.i64_in _ (by omega)
  unfold abz
  by_cases k : n < 0
  · have t : decide (n < 0) = true := by simp [k]
    rw [if_pos k]
    go_enter Try.func65, Try.ntmps65
    go_wp2
    go_ret
    exact ⟨rfl, rfl⟩
  · have t : decide (n < 0) = false := by simp; omega
    rw [if_neg k]
    go_enter Try.func65, Try.ntmps65
    go_wp2
    go_ret
    exact ⟨rfl, rfl⟩
end Go.Proofs.Ythphgppgdlimeaa
