/- covers: whether boxes cover a box. -/
import Derived.Test.YtffigpkkdljaiaaHs
namespace Go.Proofs.Ytffigpkkdljaiaa
open Go.ChangeShapes Go.WideShapes Go.ChangeAt Go.RowKit
set_option linter.unusedVariables false
set_option linter.unusedSimpArgs false

def cov3 (A B C : List Nat) : Bool := A.all fun x => B.all fun y => C.all fun z => (x &&& y &&& z) != 0
def covB (l : List Bx) (b : Bx) : Bool := cov3 (hold l b 0) (hold l b 1) (hold l b 2)
theorem hold_small (l : List Bx) (b : Bx) (i : Nat) (hl : l.length ≤ 40) : ∀ n ∈ hold l b i, n < 18446744073709551616 := by
  intro n hn
  obtain ⟨p, -, rfl⟩ := List.mem_map.1 hn
  exact hmk_small _ _ (by simp [sds]; exact hl)
theorem hold_len (l : List Bx) (b : Bx) (i : Nat) (hl : l.length ≤ 40) : (hold l b i).length ≤ 82 := by
  have := cutS_len (b.side i).1 (b.side i).2 (sds l i)
  simp [hold, sds] at *
  omega
theorem all_next {α : Type} {l : List α} {f : α → Bool} {k : Nat} (h : k < l.length) (ha : (l.take k).all f = true) (hf : f l[k] = true) : (l.take (k + 1)).all f = true := by
  rw [List.take_succ_eq_append_getElem h, List.all_append, ha]; simp [hf]
theorem all_not {α : Type} {l : List α} {f : α → Bool} {k : Nat} (h : k < l.length) (hf : f l[k] = false) : l.all f = false := List.all_eq_false.2 ⟨_, List.getElem_mem h, by simp [hf]⟩
set_option maxHeartbeats 8000000 in
set_option maxRecDepth 100000 in
theorem covers_any (p : Option Addr) (l : List Bx) (cap : Nat) (b : Bx) (w : World) (hS : Sl w p l) (hl : l.length ≤ 40) :
    Calls Try.prog 56 #[.slice p l.length cap, b.val] w fun e w' => e = .returned (.bool (covB l b)) ∧ Below w.heap.size w w' := by
  have hh := fun W h => holders_any p l cap b W h hl
  have hS1 := hS.on (al1 w (.cells #[.int .i64 b.a, .int .i64 b.b, .int .i64 b.c, .int .i64 b.d, .int .i64 b.e, .int .i64 b.f] 25))
  have hB0 := al1 w (.cells #[.int .i64 b.a, .int .i64 b.b, .int .i64 b.c, .int .i64 b.d, .int .i64 b.e, .int .i64 b.f] 25)
  unfold covB
  have n0 := hold_small l b 0 hl
  have n1 := hold_small l b 1 hl
  have n2 := hold_small l b 2 hl
  have m0 := hold_len l b 0 hl
  have m1 := hold_len l b 1 hl
  have m2 := hold_len l b 2 hl
  obtain ⟨RES, hRES⟩ : ∃ R, R = cov3 (hold l b 0) (hold l b 1) (hold l b 2) := ⟨_, rfl⟩
  rw [← hRES]
  have HR := Lib.hid hRES
  clear hRES
  generalize hold l b 0 = A at *
  generalize hold l b 1 = B at *
  generalize hold l b 2 = C at *
  unfold Bx.val at *
  go_enter Try.func56, Try.ntmps56
  go_wp2_with (go_at_call 62; (with_reducible refine (hh _ hS1).mono ?_); rintro X w1 ⟨v0, v1, v2, rfl, hA, hB, hC, hb⟩; obtain ⟨qa, ca, rfl, kA⟩ := hA.u; obtain ⟨qb, cb, rfl, kB⟩ := hB.u; obtain ⟨qc, cc, rfl, kC⟩ := hC.u)
  have hN := Has.new_ w1 91 #[.slice qa A.length ca, .slice qb B.length cb, .slice qc C.length cc]
  have hB2 := al (belows hB0 hb) (.cells #[.slice qa A.length ca, .slice qb B.length cb, .slice qc C.length cc] 91)
  have ob := al1 w1 (.cells #[.slice qa A.length ca, .slice qb B.length cb, .slice qc C.length cc] 91)
  generalize hW : w1.alloc (.cells #[.slice qa A.length ca, .slice qb B.length cb, .slice qc C.length cc] 91) = W at *
  have a0 := hN.read 0
  have a1 := hN.read 1
  have a2 := hN.read 2
  simp only [List.getElem?_toArray, List.getElem?_cons_zero, List.getElem?_cons_succ] at a0 a1 a2
  clear hA
  have hA : ∀ k (h : k < A.length), ∃ g, qa = some ⟨g, 0, none⟩ ∧ W.cell? ⟨g, k, none⟩ = some (.int .u64 (A[k] : Nat)) := fun k h => by
    obtain ⟨g, e, c⟩ := kA k h; exact ⟨g, e, cell_later ob c⟩
  clear hB
  have hB : ∀ k (h : k < B.length), ∃ g, qb = some ⟨g, 0, none⟩ ∧ W.cell? ⟨g, k, none⟩ = some (.int .u64 (B[k] : Nat)) := fun k h => by
    obtain ⟨g, e, c⟩ := kB k h; exact ⟨g, e, cell_later ob c⟩
  clear hC
  have hC : ∀ k (h : k < C.length), ∃ g, qc = some ⟨g, 0, none⟩ ∧ W.cell? ⟨g, k, none⟩ = some (.int .u64 (C[k] : Nat)) := fun k h => by
    obtain ⟨g, e, c⟩ := kC k h; exact ⟨g, e, cell_later ob c⟩
  clear hN hS1 hS hh hB0 ob hW
  go_wp2
  go_loopw [18] (fun v wr => ∃ i : Nat, v = .int .i64 (i : Int) ∧ i ≤ A.length ∧ Hid ((A.take i).all (fun x => B.all fun y => C.all fun z => (x &&& y &&& z) != 0) = true) ∧ W = wr) (fun v _ => A.length - (intOf v).toNat)
  case atStart => exact ⟨0, rfl, Nat.zero_le _, Lib.hid rfl, rfl⟩
  case round =>
    obtain ⟨i, rfl, hi, hH, rfl⟩ := hrel
    by_cases li : i < A.length
    · have g1 : decide ((i : Int) < (A.length : Int)) = true := by simp [li]
      obtain ⟨ga, rfl, ea⟩ := hA i li
      have W1 : IntKind.i64.wrap ((i : Int) + 1) = ((i + 1 : Nat) : Int) := by rw [IntWalk.i64_in _ (by omega)]; omega
      have x1 := n0 _ (List.getElem_mem li)
      go_wp2
      go_loopw [25] (fun v wr => ∃ j : Nat, v = .int .i64 (j : Int) ∧ j ≤ B.length ∧ Hid ((B.take j).all (fun y => C.all fun z => (A[i] &&& y &&& z) != 0) = true) ∧ W = wr) (fun v _ => B.length - (intOf v).toNat)
      case atStart => exact ⟨0, rfl, Nat.zero_le _, Lib.hid rfl, rfl⟩
      case round =>
        obtain ⟨j, rfl, hj, hJ, rfl⟩ := hrel
        by_cases lj : j < B.length
        · have g2 : decide ((j : Int) < (B.length : Int)) = true := by simp [lj]
          obtain ⟨gb, rfl, eb⟩ := hB j lj
          have W2 : IntKind.i64.wrap ((j : Int) + 1) = ((j + 1 : Nat) : Int) := by rw [IntWalk.i64_in _ (by omega)]; omega
          have x2 := n1 _ (List.getElem_mem lj)
          have xa : A[i] &&& B[j] < 18446744073709551616 := Nat.lt_of_le_of_lt Nat.and_le_left x1
          have X1 := bits_and_u64_nat A[i] B[j] x1 x2
          go_wp2
          go_loopw [32] (fun v wr => ∃ k : Nat, v = .int .i64 (k : Int) ∧ k ≤ C.length ∧ Hid ((C.take k).all (fun z => (A[i] &&& B[j] &&& z) != 0) = true) ∧ W = wr) (fun v _ => C.length - (intOf v).toNat)
          case atStart => exact ⟨0, rfl, Nat.zero_le _, Lib.hid rfl, rfl⟩
          case round =>
            obtain ⟨k, rfl, hk, hK, rfl⟩ := hrel
            by_cases lk : k < C.length
            · have g3 : decide ((k : Int) < (C.length : Int)) = true := by simp [lk]
              obtain ⟨gc, rfl, ec⟩ := hC k lk
              have W3 : IntKind.i64.wrap ((k : Int) + 1) = ((k + 1 : Nat) : Int) := by rw [IntWalk.i64_in _ (by omega)]; omega
              have x3 := n2 _ (List.getElem_mem lk)
              have X2 := bits_and_u64_nat (A[i] &&& B[j]) C[k] xa x3
              by_cases hz : A[i] &&& B[j] &&& C[k] = 0
              · have e : RES = false := by
                  rw [HR.out]
                  exact all_not li (all_not lj (all_not lk (by simp [hz])))
                subst e
                rw [hz] at X2
                go_wp2
                go_ret
                exact ⟨rfl, hB2⟩
              · have hz1 : ¬ ((A[i] &&& B[j] &&& C[k] : Nat) : Int) = 0 := by omega
                have hz2 : (((A[i] &&& B[j] &&& C[k] : Nat) : Int) == 0) = false := beq_eq_false_iff_ne.2 hz1
                have hz3 : decide (((A[i] &&& B[j] &&& C[k] : Nat) : Int) = 0) = false := by simp only [decide_eq_false_iff_not]; exact hz1
                go_wp2
                exact ⟨⟨k + 1, rfl, lk, Lib.hid (all_next lk hK.out (by simp [hz])), trivial⟩, by simp [intOf]; omega⟩
            · have g3 : decide ((k : Int) < (C.length : Int)) = false := by simp; omega
              have hf := hK.out
              rw [List.take_of_length_le (by omega)] at hf
              go_wp2
              exact ⟨⟨j + 1, rfl, lj, Lib.hid (all_next lj hJ.out hf), trivial⟩, by simp [intOf]; omega⟩
        · have g2 : decide ((j : Int) < (B.length : Int)) = false := by simp; omega
          have hf := hJ.out
          rw [List.take_of_length_le (by omega)] at hf
          go_wp2
          exact ⟨⟨i + 1, rfl, li, Lib.hid (all_next li hH.out hf), trivial⟩, by simp [intOf]; omega⟩
    · have g1 : decide ((i : Int) < (A.length : Int)) = false := by simp; omega
      have hf := hH.out
      rw [List.take_of_length_le (by omega)] at hf
      have e : RES = true := by rw [HR.out]; exact hf
      subst e
      go_wp2
      go_ret
      exact ⟨rfl, hB2⟩
end Go.Proofs.Ytffigpkkdljaiaa
