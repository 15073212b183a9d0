/- Contracts of the reference's digits and Format. -/
import Derived.Test.YthdafpbmmfelpaaGreatDoorM1
import Derived.Test.YthdafpbmmfelpaaGreatDoorDFmtP
import Derived.Laws.IdiomStrings
import Derived.Laws.Concat
namespace Go.Proofs.YthdafpbmmfelpaaGreatDoor.Dec
open Go.ChangeShapes Go.WideShapes Go.ChangeAt Go.RowKit
set_option linter.unusedVariables false

def DgRel (n least : Nat) (w : World) (v0 v5 : Value) (wr : World) : Prop :=
  ∃ (m : Nat) (acc : List UInt8), v0 = .int .i64 m ∧ v5 = .string ⟨acc.toArray⟩ ∧ m ≤ n ∧ acc.length ≤ 19 ∧ Hid (m * 10 ^ acc.length < 10 ^ 19) ∧ dig m least acc = dig n least [] ∧ Below w.heap.size w wr
def dgM (least : Nat) (v0 v5 : Value) : Nat := (intOf v0).toNat + (least - (match v5 with | .string s => s.size | _ => 0))
def StrRet (l : List UInt8) (w : World) (e : Ending) (w' : World) : Prop := e = .returned (.string ⟨l.toArray⟩) ∧ Below w.heap.size w w'

theorem ch_nat (d : Nat) (h : d < 10) : ((ch d).toNat : Int) = 48 + d := by
  unfold ch
  have : (UInt8.ofNat (48 + d)).toNat = 48 + d := by simp; omega
  rw [this]; omega

/-- A slice of one byte, as a string. -/
theorem one_byte (w : World) (d : Nat) (hd : d < 10) (x : Int) (hx : x = 48 + d) :
    (convert 69 9 (.slice (some ⟨w.heap.size, 0, none⟩) 1 1)).run Tryz.prog (w.alloc (.cells #[.int .u8 x] 5)) = .ok (.string ⟨[ch d].toArray⟩) (w.alloc (.cells #[.int .u8 x] 5)) := by
  refine run_convert_bytes_back (P := Tryz.prog) (w.alloc (.cells #[.int .u8 x] 5)) 69 9 5 ⟨w.heap.size, 0, none⟩ 1 [ch d] Tryz.underlying69 Tryz.underlying5 Tryz.underlying9 ?_
  intro j hj
  have hj0 : j = 0 := by simpa using hj
  subst hj0
  have h := World.cell?_alloc_mark w #[.int .u8 x] 5 (0, 0) 0
  show (w.alloc (.cells #[.int .u8 x] 5)).cell? ⟨w.heap.size, 0, none⟩ = _
  rw [h]
  simp only [List.getElem_cons_zero, ch_nat d hd, ← hx]
  rfl

theorem add_lists (w : World) (a b : List UInt8) (h : a.length + b.length ≤ 9223372036854775807) : (Op.stringOp .add ⟨a.toArray⟩ ⟨b.toArray⟩).run Tryz.prog w = .ok (.string ⟨(a ++ b).toArray⟩) w := by
  have h2 := run_string_add_sum (P := Tryz.prog) w ⟨a.toArray⟩ ⟨b.toArray⟩ (by simpa [ByteArray.size] using h)
  rw [h2, ByteArray.mk_append_mk]

theorem dg_mk {n least m : Nat} {w W : World} {acc : List UInt8} {c : UInt8} {a : Int} (ha : a = ((m / 10 : Nat) : Int)) (hm : m ≤ n) (hn : n ≤ 1152921504606846976) (hl : least ≤ 10) (hacc : Hid (m * 10 ^ acc.length < 10 ^ 19)) (hc : c = ch (m % 10)) (h : 0 < m ∨ acc.length < least)
    (hd : dig m least acc = dig n least []) (hb : Below w.heap.size w W) :
    DgRel n least w (.int .i64 a) (.string ⟨(c :: acc).toArray⟩) W ∧ dgM least (.int .i64 a) (.string ⟨(c :: acc).toArray⟩) < dgM least (.int .i64 m) (.string ⟨acc.toArray⟩) := by
  have hs := len_step hacc.out
  refine ⟨⟨m / 10, c :: acc, by rw [ha], rfl, by omega, ?_, hs.2, ?_, hb⟩, ?_⟩
  · simp only [List.length_cons]
    rcases h with h | h
    · have := hs.1 h; omega
    · omega
  · rw [hc, ← hd]; exact (dig_step (by omega) (by omega) h).symm
  · have e1 : (⟨(c :: acc).toArray⟩ : ByteArray).size = acc.length + 1 := by simp [ByteArray.size]
    have e2 : (⟨acc.toArray⟩ : ByteArray).size = acc.length := by simp [ByteArray.size]
    simp only [dgM, intOf, e1, e2, ha]
    omega

theorem digits_any (n least : Nat) (w : World) (hn : n ≤ 1152921504606846976) (hl : least ≤ 10) :
    Calls Tryz.prog 133 #[.int .i64 n, .int .i64 least] w (StrRet (dig n least []) w) := by
  go_enter Tryz.func133, Tryz.ntmps133
  go_wp2
  go_loopw [0, 5] (fun v0 v5 wr => DgRel n least w v0 v5 wr) (fun v0 v5 _ => dgM least v0 v5)
  case atStart => exact ⟨n, [], rfl, rfl, Nat.le_refl _, by simp, by show n * 10 ^ 0 < 10 ^ 19; omega, rfl, Below.refl _ _⟩
  case round =>
    obtain ⟨m, acc, rfl, rfl, hm, hacc, hpw, hd, hbel⟩ := hrel
    have HD := Lib.hid hd; clear hd
    have hcv := one_byte wr (m % 10) (by omega) (48 + (m : Int) % 10) (by omega)
    have hadd := fun W : World => add_lists W [ch (m % 10)] acc (by simp; omega)
    have hbs := hbel.size
    by_cases hp : 0 < m
    · go_wp2
      exact dg_mk (by omega) hm hn hl hpw rfl (.inl hp) HD.out (hbel.alloc hbs _)
    · by_cases hp2 : acc.length < least
      · have hp3 : (acc.length : Int) < least := by omega
        go_wp2
        exact dg_mk (by omega) hm hn hl hpw rfl (.inr hp2) HD.out (hbel.alloc hbs _)
      · have hp3 : ¬ (acc.length : Int) < least := by omega
        go_wp2
        go_ret
        exact ⟨by rw [← HD.out, dig_done (by omega)]; rfl, hbel⟩

theorem digits_is (n least : Int) (L : List UInt8) (w : World) (h0 : 0 ≤ n) (hn : n ≤ 1152921504606846976) (g0 : 0 ≤ least) (hl : least ≤ 10) (hL : dig n.toNat least.toNat [] = L) :
    Calls Tryz.prog 133 #[.int .i64 n, .int .i64 least] w (StrRet L w) := by
  obtain ⟨n, rfl⟩ := Int.eq_ofNat_of_zero_le h0
  obtain ⟨least, rfl⟩ := Int.eq_ofNat_of_zero_le g0
  rw [Int.toNat_natCast, Int.toNat_natCast] at hL
  subst hL
  exact digits_any n least w (by omega) (by omega)

theorem rformat_zero (n : Int) (w : World) (h1 : -1152921504606846976 ≤ n) (h2 : n ≤ 1152921504606846976) :
    Calls Tryz.prog 107 #[.int .i64 n, .int .i64 0] w (StrRet (fmtL n 0) w) := by
  obtain ⟨L, hL⟩ : ∃ L, dig n.natAbs 1 [] = L := ⟨_, rfl⟩
  have hf : fmtL n 0 = sgn n ++ L := by unfold fmtL pt; rw [if_neg (by omega), hL]
  have HF := Lib.hid hf; clear hf
  have hLl : L.length ≤ 19 := by rw [← hL]; exact dig_le _ _ (by omega) (by omega)
  have hadd := fun W : World => add_lists W [45] L (by simp; omega)
  have hadd2 := fun W : World => add_lists W [] L (by simp; omega)
  by_cases hs : n < 0
  · go_enter Tryz.func107, Tryz.ntmps107
    go_wp2_with (go_at_call 133; refine (digits_is _ _ L _ (by omega) (by omega) (by omega) (by omega) (by rw [← hL]; congr 1; omega)).mono ?_; rintro e W ⟨rfl, hb⟩)
    go_ret
    exact ⟨by rw [HF.out]; unfold sgn; rw [if_pos hs]; rfl, hb⟩
  · go_enter Tryz.func107, Tryz.ntmps107
    go_wp2_with (go_at_call 133; refine (digits_is _ _ L _ (by omega) (by omega) (by omega) (by omega) (by rw [← hL]; congr 1; omega)).mono ?_; rintro e W ⟨rfl, hb⟩)
    go_ret
    exact ⟨by rw [HF.out]; unfold sgn; rw [if_neg (by omega)]; rfl, hb⟩

theorem str_eq {a b : ByteArray} (h : a = b) : Ending.returned (.string a) = .returned (.string b) := by rw [h]
theorem below_drewN {B : Nat} {a w : World} (h : Below B a w) (n : Nat) : Below B a (w.drewN n) := ⟨h.os, h.tape, h.output, h.size, h.block⟩
theorem cat_eq (g L : List UInt8) (p : Nat) : (⟨g.toArray⟩ : ByteArray) ++ (⟨L.toArray⟩ : ByteArray).extract 0 p ++ ⟨#[46]⟩ ++ (⟨L.toArray⟩ : ByteArray).extract p L.length = ⟨(g ++ (L.take p ++ 46 :: L.drop p)).toArray⟩ := by
  rw [Lib.extract_eq, Lib.extract_eq]
  have e : (L.drop p).take (L.length - p) = L.drop p := List.take_of_length_le (by simp)
  have e2 : (⟨L.toArray⟩ : ByteArray).data.toList = L := rfl
  rw [e2, e]
  simp [ByteArray.mk_append_mk]

theorem rformat_pos (n : Int) (k : Nat) (w : World) (h1 : -1152921504606846976 ≤ n) (h2 : n ≤ 1152921504606846976) (k1 : 1 ≤ k) (k2 : k ≤ 9) :
    Calls Tryz.prog 107 #[.int .i64 n, .int .i64 k] w (StrRet (fmtL n k) w) := by
  obtain ⟨L, hL⟩ : ∃ L, dig n.natAbs (k + 1) [] = L := ⟨_, rfl⟩
  have hLl : L.length ≤ 19 := by rw [← hL]; exact dig_le _ _ (by omega) (by omega)
  have hLg : k + 1 ≤ L.length := by rw [← hL]; exact dig_ge _ _ (by omega)
  obtain ⟨p, hp⟩ : ∃ p, L.length = p + k := ⟨L.length - k, by omega⟩
  have hf : fmtL n k = sgn n ++ (L.take p ++ 46 :: L.drop p) := by unfold fmtL pt; rw [hL, if_pos (by omega), show L.length - k = p by omega]
  have e1 : IntKind.i64.wrap ((L.length : Int) - (k : Int)) = (p : Int) := by rw [IntWalk.i64_in _ (by omega)]; omega
  have e2 : (0 : Int) ≤ (p : Int) := by omega
  have e3 : (p : Int) ≤ (L.length : Int) := by omega
  have e4 : (L.length : Int) - (k : Int) = p := by omega
  have HP := Lib.hid hp; clear hp
  have HF := Lib.hid hf; clear hf
  by_cases hs : n < 0
  · go_enter Tryz.func107, Tryz.ntmps107
    go_wp2_with (go_at_call 133; refine (digits_is _ _ L _ (by omega) (by omega) (by omega) (by omega) (by rw [← hL]; congr 1 <;> omega)).mono ?_; rintro e W ⟨rfl, hb⟩)
    go_quiet (fail)
    go_wp2
    go_ret
    exact ⟨by rw [HF.out]; unfold sgn; rw [if_pos hs]; exact str_eq (cat_eq [45] L p), below_drewN hb _⟩
  · go_enter Tryz.func107, Tryz.ntmps107
    go_wp2_with (go_at_call 133; refine (digits_is _ _ L _ (by omega) (by omega) (by omega) (by omega) (by rw [← hL]; congr 1 <;> omega)).mono ?_; rintro e W ⟨rfl, hb⟩)
    go_quiet (fail)
    go_wp2
    go_ret
    exact ⟨by rw [HF.out]; unfold sgn; rw [if_neg (by omega)]; exact str_eq (cat_eq [] L p), below_drewN hb _⟩
end Go.Proofs.YthdafpbmmfelpaaGreatDoor.Dec
