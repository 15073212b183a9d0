/- The count of a length among pieces (the law's own function). -/
import Derived.Test.YthdafpbmmfelpaaGreatDoorW4
namespace Go.Proofs.YthdafpbmmfelpaaGreatDoor
open Go.ChangeShapes Go.WideShapes Go.ChangeAt Go.RowKit
set_option linter.unusedVariables false
set_option linter.unusedSimpArgs false

def sumC (xs : List S2) (x : Int) : Int := ((xs.filter fun y => y.1 == x).map (·.2)).sum
theorem sumC_snoc (xs : List S2) (y : S2) (x : Int) : sumC (xs ++ [y]) x = sumC xs x + if y.1 = x then y.2 else 0 := by
  unfold sumC
  rw [List.filter_append, List.map_append, List.sum_append]
  by_cases h : y.1 = x
  · simp [h]
  · simp [h]
theorem sumC_cons (xs : List S2) (y : S2) (x : Int) : sumC (y :: xs) x = (if y.1 = x then y.2 else 0) + sumC xs x := by
  unfold sumC
  rw [List.filter_cons]
  by_cases h : y.1 = x
  · simp [h]
  · simp [h]
theorem sumC_bd {xs : List S2} (h : ∀ k (h : k < xs.length), 1 ≤ xs[k].2 ∧ xs[k].2 ≤ 60000) (hl : xs.length ≤ 60) (x : Int) (j : Nat) : 0 ≤ sumC (xs.take j) x ∧ sumC (xs.take j) x ≤ 3600000 := by
  have h2 := sum_bd (M := 60000) (xs := ((xs.take j).filter fun y => y.1 == x).map (·.2)) fun c hc => by
    obtain ⟨y, hy, rfl⟩ := List.mem_map.1 hc
    obtain ⟨k, hk, rfl⟩ := List.mem_iff_getElem.1 (List.mem_of_mem_take (List.mem_filter.1 hy).1)
    have := h k hk
    exact ⟨by omega, this.2⟩
  have h3 : (((xs.take j).filter fun y => y.1 == x).map (·.2)).length ≤ 60 := by
    rw [List.length_map]
    have := List.length_filter_le (fun y : S2 => y.1 == x) (xs.take j)
    rw [List.length_take] at this
    omega
  unfold sumC
  omega
set_option maxHeartbeats 8000000 in
set_option maxRecDepth 100000 in
theorem sumq_any (v : Value) (xs : List S2) (x : Int) (w : World) (h1 : Rd sc 2 w v xs) (hx : xs.length ≤ 60) (hb : ∀ k (h : k < xs.length), 1 ≤ xs[k].2 ∧ xs[k].2 ≤ 60000) :
    Calls Tryz.prog 32 #[v, .int .i64 x] w fun e w' => e = .returned (.int .i64 (sumC xs x)) ∧ Below w.heap.size w w' := by
  have HR := Lib.hid h1
  have HBD := Lib.hid (sumC_bd hb hx x)
  obtain ⟨q, c, rfl, -⟩ := h1
  clear hb
  go_enter Tryz.func32, Tryz.ntmps32
  go_wp2
  go_loopw [5, 10] (fun v5 v10 wr => ∃ j : Nat, v10 = .int .i64 j ∧ j ≤ xs.length ∧ v5 = .int .i64 (sumC (xs.take j) x) ∧ Below w.heap.size w wr) (fun _ v _ => xs.length - (intOf v).toNat)
  case atStart => exact ⟨0, rfl, Nat.zero_le _, rfl, Below.refl _ _⟩
  case round =>
    obtain ⟨j, rfl, hj, rfl, hX⟩ := hrel
    by_cases hjl : j < xs.length
    · have t1 : decide ((j : Int) < (xs.length : Int)) = true := by simp; omega
      have V1 : IntKind.i64.wrap ((j : Int) + 1) = ((j + 1 : Nat) : Int) := by rw [IntWalk.i64_in _ (by omega)]; omega
      have u1 : (0 : Int) ≤ (j : Int) := by omega
      have u2 : (j : Int) < (xs.length : Int) := by omega
      obtain ⟨q2, c2, e2, kk⟩ := HR.out.on sl hX
      simp only [Value.slice.injEq] at e2
      obtain ⟨rfl, -, rfl⟩ := e2
      obtain ⟨g2, rfl, cc⟩ := kk j hjl
      have c0 := cc 0 (by omega)
      have c1 := cc 1 (by omega)
      have hs : sumC (xs.take (j + 1)) x = sumC (xs.take j) x + if xs[j].1 = x then xs[j].2 else 0 := by
        rw [List.take_succ_eq_append_getElem hjl, sumC_snoc]
      have b2 := HBD.out (j + 1)
      rw [hs] at b2
      obtain ⟨y, hy⟩ : ∃ y, y = xs[j] := ⟨_, rfl⟩
      rw [← hy] at c0 c1 hs b2
      obtain ⟨xl, xc⟩ := y
      replace c0 : wr.cell? ⟨g2, j * 2, none⟩ = some (.int .i64 xl) := c0
      replace c1 : wr.cell? ⟨g2, j * 2 + 1, none⟩ = some (.int .i64 xc) := c1
      have E := (Env.nil wr).add wr.heap.size 49 #[.int .i64 xl, .int .i64 xc] rfl
      obtain ⟨-, s0, s1⟩ := s_b2 E
      have B9 := al hX (.cells #[.int .i64 xl, .int .i64 xc] 49)
      dsimp only at hs b2
      by_cases he : xl = x
      · rw [if_pos he] at hs b2
        have HE := Lib.hid hs
        have b3 : IntKind.i64.wrap (sumC (xs.take j) x + xc) = sumC (xs.take j) x + xc := IntWalk.i64_in _ (by omega)
        have l1 : (xl == x) = true := by simp [he]
        clear hs b2 hy cc kk E he
        generalize sumC (xs.take j) x = sj at *
        go_wp2
        exact ⟨⟨j + 1, rfl, hjl, by rw [HE.out], B9⟩, by simp [intOf]; omega⟩
      · rw [if_neg he, Int.add_zero] at hs
        have HE := Lib.hid hs
        have l1 : (xl == x) = false := by simp [he]
        clear hs b2 hy cc kk E he
        generalize sumC (xs.take j) x = sj at *
        go_wp2
        exact ⟨⟨j + 1, rfl, hjl, by rw [HE.out], B9⟩, by simp [intOf]; omega⟩
    · have t1 : decide ((j : Int) < (xs.length : Int)) = false := by simp; omega
      have e : xs.take j = xs := List.take_of_length_le (by omega)
      rw [e]
      go_wp2
      go_ret
      exact ⟨rfl, hX⟩
theorem sumC_none {f : Int → Int} {x : Int} : ∀ {ks : List Int}, x ∉ ks → sumC (ks.map fun k => (k, f k)) x = 0
  | [], _ => rfl
  | k :: r, h => by
    rw [List.map_cons, sumC_cons, sumC_none fun hm => h (by simp [hm]), if_neg (fun e => h (by simp [← e]))]; rfl
theorem sumC_map {f : Int → Int} {x : Int} : ∀ {ks : List Int}, ks.Nodup → x ∈ ks → sumC (ks.map fun k => (k, f k)) x = f x
  | k :: r, hn, h => by
    obtain ⟨h1, h2⟩ := List.nodup_cons.1 hn
    rw [List.map_cons, sumC_cons]
    rcases List.mem_cons.1 h with rfl | h
    · rw [sumC_none h1]; simp
    · rw [sumC_map h2 h, if_neg (fun e => h1 (by rw [show k = x from e]; exact h))]; omega
theorem sumC_pcs {l : List Bar} (hv : ∀ b ∈ l, barB b = true) (d x : Int) : sumC (pcs l d) x = kct l d x := by
  unfold pcs
  cases h : hasC l d x
  · rw [sumC_none (fun hm => by rw [pcK_mem hv, h] at hm; cases hm), kct_none h]
  · exact sumC_map ((pcK_desc l d).imp fun h => by omega) ((pcK_mem hv).2 h)
end Go.Proofs.YthdafpbmmfelpaaGreatDoor
