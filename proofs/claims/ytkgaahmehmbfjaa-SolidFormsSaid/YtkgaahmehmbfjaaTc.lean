/- coordinates; taking: which boxes take up all between two places. -/
import Derived.Test.YtkgaahmehmbfjaaZ2
import Derived.Test.YtkgaahmehmbfjaaTa
namespace Go.Proofs.Ytkgaahmehmbfjaa
open Go.ChangeShapes Go.WideShapes Go.ChangeAt Go.RowKit
set_option linter.unusedVariables false
set_option linter.unusedSimpArgs false

theorem wrap_u32 (n : Int) : IntKind.u32.wrap n = n % 4294967296 := by
  simp only [IntKind.wrap, IntKind.bits, IntKind.signed]
  simp
theorem u32_in (n : Int) (h : 0 ≤ n ∧ n < 4294967296) : IntKind.u32.wrap n = n := by rw [wrap_u32]; omega
theorem u32_or (a b : Nat) (ha : a < 4294967296) (hb : b < 4294967296) : bits .or .u32 (a : Int) (b : Int) = ((a ||| b : Nat) : Int) := by
  have hx : a ||| b < 2 ^ 32 := Nat.or_lt_two_pow (by omega) (by omega)
  have h1 : (BitVec.ofInt 32 (a : Int)).toNat = a := by
    rw [BitVec.ofInt_natCast, BitVec.toNat_ofNat]; exact Nat.mod_eq_of_lt (by omega)
  have h2 : (BitVec.ofInt 32 (b : Int)).toNat = b := by
    rw [BitVec.ofInt_natCast, BitVec.toNat_ofNat]; exact Nat.mod_eq_of_lt (by omega)
  show IntKind.u32.wrap ((BitVec.ofInt 32 (a : Int) ||| BitVec.ofInt 32 (b : Int)).toNat : Int) = _
  rw [BitVec.toNat_or, h1, h2, wrap_u32]
  omega
theorem u32_and (a b : Nat) (ha : a < 4294967296) (hb : b < 4294967296) : bits .and .u32 (a : Int) (b : Int) = ((a &&& b : Nat) : Int) := by
  have hx : a &&& b < 2 ^ 32 := Nat.and_lt_two_pow _ (by omega)
  have h1 : (BitVec.ofInt 32 (a : Int)).toNat = a := by
    rw [BitVec.ofInt_natCast, BitVec.toNat_ofNat]; exact Nat.mod_eq_of_lt (by omega)
  have h2 : (BitVec.ofInt 32 (b : Int)).toNat = b := by
    rw [BitVec.ofInt_natCast, BitVec.toNat_ofNat]; exact Nat.mod_eq_of_lt (by omega)
  show IntKind.u32.wrap ((BitVec.ofInt 32 (a : Int) &&& BitVec.ofInt 32 (b : Int)).toNat : Int) = _
  rw [BitVec.toNat_and, h1, h2, wrap_u32]
  omega
set_option maxRecDepth 100000 in
theorem co_any (a b c : Int) (w : World) : Calls Try.prog 118 #[.agg #[.int .i64 a, .int .i64 b, .int .i64 c]] w fun e w' => e = .returned (.agg #[.int .i64 a, .int .i64 b, .int .i64 c]) ∧ Below w.heap.size w w' := by
  have E := ((Env.nil w).add w.heap.size 28 #[.int .i64 a, .int .i64 b, .int .i64 c] rfl).add (w.heap.size + 1) 92 #[.int .i64 0, .int .i64 0, .int .i64 0] (by simp)
  have C := E.cells
  simp [BC, CF] at C
  go_enter Try.func118, Try.ntmps118
  go_wp2
  refine bodyPost_ret (v := .agg #[.int .i64 a, .int .i64 b, .int .i64 c]) (by simp [results, Try.results118, go_sem, C]) rfl ⟨rfl, ?_⟩
  exact al (al1 _ _) _
/-- A coordinate by its axis. -/
def pk (a b c : Int) : Nat → Int
  | 0 => a
  | 1 => b
  | _ => c
theorem side_pk (x : Bx) (i : Nat) : x.side i = (pk x.a x.b x.c i, pk x.d x.e x.f i) := by rcases i with _ | _ | i <;> rfl
theorem ix92 (a b c : Int) {ax : Nat} (h : ax < 3) (w : World) : Sem.run Try.prog (Instr.index 92 (.agg #[.int .i64 a, .int .i64 b, .int .i64 c]) (.int .i64 (ax : Int))) w = .ok (.int .i64 (pk a b c ax)) w := by
  rcases (by omega : ax = 0 ∨ ax = 1 ∨ ax = 2) with rfl | rfl | rfl
  all_goals simp [Instr.index, go_sem, Try.underlying92, pk]
theorem two_lt20 {k : Nat} (h : k ≤ 20) : (2 : Nat) ^ k < 4294967296 := by
  have : (2 : Nat) ^ k ≤ 2 ^ 20 := Nat.pow_le_pow_right (by decide) h
  omega
theorem hmk_20 (os : List S2) (p : S2) {k : Nat} (h : k ≤ 20) : hmk os p k < 1048577 := by
  have h1 := hmk_lt os p k
  have : (2 : Nat) ^ k ≤ 2 ^ 20 := Nat.pow_le_pow_right (by decide) h
  omega
set_option maxHeartbeats 8000000 in
set_option maxRecDepth 100000 in
theorem taking_any (p : Option Addr) (l : List Bx) (cap ax : Nat) (lo hi : Int) (w : World) (hS : Sl w p l) (hl : l.length ≤ 20) (hax : ax < 3) :
    Calls Try.prog 104 #[.slice p l.length cap, .int .i64 (ax : Int), .int .i64 lo, .int .i64 hi] w fun e w' => e = .returned (.int .u32 (hmk (sds l ax) (lo, hi) l.length : Nat)) ∧ Below w.heap.size w w' := by
  have hco := fun a b c W => co_any a b c W
  have hix := fun a b c W => ix92 a b c hax W
  go_enter Try.func104, Try.ntmps104
  go_wp2
  go_loopw [9, 14] (fun v9 v14 wr => ∃ k : Nat, v14 = .int .i64 k ∧ k ≤ l.length ∧ v9 = .int .u32 (hmk (sds l ax) (lo, hi) k : Nat) ∧ Below w.heap.size w wr) (fun _ v _ => l.length - (intOf v).toNat)
  case atStart => exact ⟨0, rfl, Nat.zero_le _, rfl, Below.refl _ _⟩
  case round =>
    obtain ⟨k, rfl, hk, rfl, hB⟩ := hrel
    by_cases hlt : k < l.length
    · have g1 : decide ((k : Int) < (l.length : Int)) = true := by simp [hlt]
      obtain ⟨a, rfl, c0, c1, c2, c3, c4, c5⟩ := (hS.on hB).at hlt
      have E := (Env.nil wr).add wr.heap.size 30 #[.int .i64 l[k].a, .int .i64 l[k].b, .int .i64 l[k].c, .int .i64 l[k].d, .int .i64 l[k].e, .int .i64 l[k].f] rfl
      have C := E.cells
      simp [BC, CF] at C
      have W1 : IntKind.i64.wrap ((k : Int) + 1) = ((k + 1 : Nat) : Int) := by rw [IntWalk.i64_in _ (by omega)]; omega
      have e : (sds l ax).getD k (0, 0) = (pk l[k].a l[k].b l[k].c ax, pk l[k].d l[k].e l[k].f ax) := by simp [sds, hlt, side_pk]
      have ix1 := fun W => hix l[k].a l[k].b l[k].c W
      have ix2 := fun W => hix l[k].d l[k].e l[k].f W
      have hs := hmk_20 (sds l ax) (lo, hi) (k := k) (by omega)
      by_cases d1 : pk l[k].a l[k].b l[k].c ax ≤ lo
      · have q1 : decide (pk l[k].a l[k].b l[k].c ax ≤ lo) = true := by simp [d1]
        by_cases d2 : hi ≤ pk l[k].d l[k].e l[k].f ax
        · have q2 : decide (hi ≤ pk l[k].d l[k].e l[k].f ax) = true := by simp [d2]
          have e2 : hmk (sds l ax) (lo, hi) (k + 1) = hmk (sds l ax) (lo, hi) k ||| 2 ^ k := by rw [hmk, e]; simp [cn, conS, d1, d2]
          have ht := two_lt20 (k := k) (by omega)
          have e3 : (2 : Int) ^ k = ((2 ^ k : Nat) : Int) := by simp
          have W3 : IntKind.u32.wrap ((2 : Int) ^ k) = (2 : Int) ^ k := by
            rw [e3]
            generalize (2 : Nat) ^ k = m at ht
            exact u32_in _ (by omega)
          have W2 : bits .or .u32 ((hmk (sds l ax) (lo, hi) k : Nat) : Int) ((2 ^ k : Nat) : Int) = ((hmk (sds l ax) (lo, hi) (k + 1) : Nat) : Int) := by rw [e2]; exact u32_or _ _ (by omega) ht
          have E3 := Lib.hid e3
          clear e3 e2 e d1 d2 hco hix
          have hco := fun a b c W => co_any a b c W
          generalize pk l[k].a l[k].b l[k].c ax = y1 at *
          generalize pk l[k].d l[k].e l[k].f ax = y2 at *
          go_wp2_with (go_at_call 118; (with_reducible refine (hco _ _ _ _).mono ?_); rintro X wq ⟨rfl, hb⟩; replace E := E.on hb; replace C := E.cells; simp [BC, CF] at C; clear hb)
          exact ⟨⟨k + 1, rfl, hlt, by rw [E3.out, W2], belows hB E.1⟩, by simp [intOf]; omega⟩
        · have q2 : decide (hi ≤ pk l[k].d l[k].e l[k].f ax) = false := by simp [d2]
          have e2 : hmk (sds l ax) (lo, hi) (k + 1) = hmk (sds l ax) (lo, hi) k := by rw [hmk, e]; simp [cn, conS, d1, d2]
          clear e d1 d2 hix
          generalize pk l[k].a l[k].b l[k].c ax = y1 at *
          generalize pk l[k].d l[k].e l[k].f ax = y2 at *
          go_wp2_with (go_at_call 118; (with_reducible refine (hco _ _ _ _).mono ?_); rintro X wq ⟨rfl, hb⟩; replace E := E.on hb; replace C := E.cells; simp [BC, CF] at C; clear hb)
          exact ⟨⟨k + 1, rfl, hlt, by rw [e2], belows hB E.1⟩, by simp [intOf]; omega⟩
      · have q1 : decide (pk l[k].a l[k].b l[k].c ax ≤ lo) = false := by simp [d1]
        have e2 : hmk (sds l ax) (lo, hi) (k + 1) = hmk (sds l ax) (lo, hi) k := by rw [hmk, e]; simp [cn, conS, d1]
        clear e d1 hix
        generalize pk l[k].a l[k].b l[k].c ax = y1 at *
        go_wp2_with (go_at_call 118; (with_reducible refine (hco _ _ _ _).mono ?_); rintro X wq ⟨rfl, hb⟩; replace E := E.on hb; replace C := E.cells; simp [BC, CF] at C; clear hb)
        exact ⟨⟨k + 1, rfl, hlt, by rw [e2], belows hB E.1⟩, by simp [intOf]; omega⟩
    · have g1 : decide ((k : Int) < (l.length : Int)) = false := by simp; omega
      have e : k = l.length := by omega
      subst e
      go_wp2
      go_ret
      exact ⟨rfl, hB⟩
end Go.Proofs.Ytkgaahmehmbfjaa
