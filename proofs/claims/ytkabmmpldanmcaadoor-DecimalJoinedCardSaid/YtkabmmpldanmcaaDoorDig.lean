/- Contracts of the reference's digits and Format. -/
import Derived.Test.YtkabmmpldanmcaaDoorHead
import Derived.Test.YtkabmmpldanmcaaDoorFmtP
import Derived.Laws.IdiomStrings
import Derived.Laws.Concat
namespace Go.Proofs.YtkabmmpldanmcaaDoor
open Go.ChangeShapes Go.WideShapes Go.ChangeAt Go.RowKit
set_option linter.unusedVariables false

def DgRel (n least : Nat) (w : World) (v0 v5 : Value) (wr : World) : Prop :=
  ∃ (m : Nat) (acc : List UInt8), v0 = .int .i64 m ∧ v5 = .string ⟨acc.toArray⟩ ∧ m ≤ n ∧ acc.length ≤ 19 ∧ Hid (m * 10 ^ acc.length < 10 ^ 19) ∧ dig m least acc = dig n least [] ∧ Below w.heap.size w wr
def dgM (least : Nat) (v0 v5 : Value) : Nat := (intOf v0).toNat + (least - (match v5 with | .string s => s.size | _ => 0))
def StrRet (l : List UInt8) (w : World) (e : Ending) (w' : World) : Prop := e = .returned (.string ⟨l.toArray⟩) ∧ Below w.heap.size w w'

theorem ch_nat (d : Nat) (h : d < 10) : ((ch d).toNat : Int) = 48 + d := by
  unfold ch
  have : (UInt8.ofNat (48 + d)).toNat = 48 + d := by simp; omega
  rw [this]; omega

/-- A slice of one byte, as a string. -/
theorem one_byte (w : World) (d : Nat) (hd : d < 10) (x : Int) (hx : x = 48 + d) :
    (convert 47 9 (.slice (some ⟨w.heap.size, 0, none⟩) 1 1)).run Tryd.prog (w.alloc (.cells #[.int .u8 x] 5)) = .ok (.string ⟨[ch d].toArray⟩) (w.alloc (.cells #[.int .u8 x] 5)) := by
  refine run_convert_bytes_back (P := Tryd.prog) (w.alloc (.cells #[.int .u8 x] 5)) 47 9 5 ⟨w.heap.size, 0, none⟩ 1 [ch d] Tryd.underlying47 Tryd.underlying5 Tryd.underlying9 ?_
  intro j hj
  have hj0 : j = 0 := by simpa using hj
  subst hj0
  have h := World.cell?_alloc_mark w #[.int .u8 x] 5 (0, 0) 0
  show (w.alloc (.cells #[.int .u8 x] 5)).cell? ⟨w.heap.size, 0, none⟩ = _
  rw [h]
  simp only [List.getElem_cons_zero, ch_nat d hd, ← hx]
  rfl

theorem add_lists (w : World) (a b : List UInt8) (h : a.length + b.length ≤ 9223372036854775807) : (Op.stringOp .add ⟨a.toArray⟩ ⟨b.toArray⟩).run Tryd.prog w = .ok (.string ⟨(a ++ b).toArray⟩) w := by
  have h2 := run_string_add_sum (P := Tryd.prog) w ⟨a.toArray⟩ ⟨b.toArray⟩ (by simpa [ByteArray.size] using h)
  rw [h2, ByteArray.mk_append_mk]

theorem dg_mk {n least m : Nat} {w W : World} {acc : List UInt8} {c : UInt8} {a : Int} (ha : a = ((m / 10 : Nat) : Int)) (hm : m ≤ n) (hn : n ≤ 1152921504606846976) (hl : least ≤ 10) (hacc : Hid (m * 10 ^ acc.length < 10 ^ 19)) (hc : c = ch (m % 10)) (h : 0 < m ∨ acc.length < least)
    (hd : dig m least acc = dig n least []) (hb : Below w.heap.size w W) :
    DgRel n least w (.int .i64 a) (.string ⟨(c :: acc).toArray⟩) W ∧ dgM least (.int .i64 a) (.string ⟨(c :: acc).toArray⟩) < dgM least (.int .i64 m) (.string ⟨acc.toArray⟩) := by
  have hs := len_step hacc.out
  refine ⟨⟨m / 10, c :: acc, by rw [ha], rfl, by omega, ?_, hs.2, ?_, hb⟩, ?_⟩
  · simp only [List.length_cons]
    rcases h with h | h
    · have := hs.1 h; omega
    · omega
  · rw [hc, ← hd]; exact (dig_step (by omega) (by omega) h).symm
  · have e1 : (⟨(c :: acc).toArray⟩ : ByteArray).size = acc.length + 1 := by simp [ByteArray.size]
    have e2 : (⟨acc.toArray⟩ : ByteArray).size = acc.length := by simp [ByteArray.size]
    simp only [dgM, intOf, e1, e2, ha]
    omega

theorem str_eq {a b : ByteArray} (h : a = b) : Ending.returned (.string a) = .returned (.string b) := by rw [h]
theorem below_drewN {B : Nat} {a w : World} (h : Below B a w) (n : Nat) : Below B a (w.drewN n) := ⟨h.os, h.tape, h.output, h.size, h.block⟩
theorem cat_eq (g L : List UInt8) (p : Nat) : (⟨g.toArray⟩ : ByteArray) ++ (⟨L.toArray⟩ : ByteArray).extract 0 p ++ ⟨#[46]⟩ ++ (⟨L.toArray⟩ : ByteArray).extract p L.length = ⟨(g ++ (L.take p ++ 46 :: L.drop p)).toArray⟩ := by
  rw [Lib.extract_eq, Lib.extract_eq]
  have e : (L.drop p).take (L.length - p) = L.drop p := List.take_of_length_le (by simp)
  have e2 : (⟨L.toArray⟩ : ByteArray).data.toList = L := rfl
  rw [e2, e]
  simp [ByteArray.mk_append_mk]

end Go.Proofs.YtkabmmpldanmcaaDoor
