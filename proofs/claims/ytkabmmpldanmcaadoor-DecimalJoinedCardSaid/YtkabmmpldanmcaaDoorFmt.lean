/- The contract of decimal.Format. -/
import Derived.Test.YtkabmmpldanmcaaDoorDig
import Derived.Test.YtkabmmpldanmcaaDoorTk0
namespace Go.Proofs.YtkabmmpldanmcaaDoor
open Go.ChangeShapes Go.WideShapes Go.ChangeAt Go.RowKit
set_option linter.unusedVariables false

theorem format_range (n k : Int) (w : World) (hk : plB k = false) :
    Calls Tryd.prog 11 #[.int .i64 n, .int .i64 k] w fun e w' => e = .returned (.tuple #[.string ⟨#[]⟩, .int .i64 2]) ∧ w = w' := by
  go_enter Tryd.func11, Tryd.ntmps11
  go_wp2_with (go_at_call 20; refine (isPlaces_any _ _).mono ?_; rintro e w' ⟨rfl, rfl⟩)
  go_ret2
  exact ⟨rfl, rfl⟩
theorem format_big (n k : Int) (w : World) (hk : plB k = true) (hn : numB n = false) :
    Calls Tryd.prog 11 #[.int .i64 n, .int .i64 k] w fun e w' => e = .returned (.tuple #[.string ⟨#[]⟩, .int .i64 5]) ∧ w = w' := by
  go_enter Tryd.func11, Tryd.ntmps11
  go_wp2_with (first | (go_at_call 20; refine (isPlaces_any _ _).mono ?_; rintro e w' ⟨rfl, rfl⟩) | (go_at_call 21; refine (isNumber_any _ _).mono ?_; rintro e w' ⟨rfl, rfl⟩))
  go_ret2
  exact ⟨rfl, rfl⟩

def bv (c : UInt8) : Value := .int .u8 (c.toNat : Int)
def zeros : Array Value := #[.int .u8 0, .int .u8 0, .int .u8 0, .int .u8 0, .int .u8 0, .int .u8 0, .int .u8 0, .int .u8 0, .int .u8 0, .int .u8 0, .int .u8 0, .int .u8 0, .int .u8 0, .int .u8 0, .int .u8 0, .int .u8 0, .int .u8 0, .int .u8 0, .int .u8 0, .int .u8 0, .int .u8 0]

/-- The block holds the text from place a on. -/
def Txt (wr : World) (B a : Nat) (l : List UInt8) : Prop := ∃ cs : Array Value, Has wr B 5 cs ∧ cs.size = 21 ∧ a + l.length = 21 ∧ cs.toList.drop a = l.map bv

def FmRel (n : Nat) (k : Nat) (w : World) (v7 v8 v9 : Value) (wr : World) : Prop :=
  ∃ (m a : Nat) (acc : List UInt8), v7 = .int .i64 a ∧ v8 = .int .i64 m ∧ v9 = .int .i64 (acc.length : Nat) ∧ m ≤ n ∧ acc.length ≤ 19 ∧ Hid (m * 10 ^ acc.length < 10 ^ 19) ∧ dig m (k + 1) acc = dig n (k + 1) [] ∧ Below w.heap.size w wr ∧ Txt wr w.heap.size a (pt k acc)

theorem pt_nil (k : Nat) : pt k [] = [] := by unfold pt; rw [if_neg (by simp)]
theorem put_drop (cs : Array Value) (b : Nat) (v : Value) (hb : b < cs.size) : (cs.setIfInBounds b v).toList.drop b = v :: cs.toList.drop (b + 1) := by
  rw [Array.toList_setIfInBounds, List.drop_eq_getElem_cons (by simpa using hb), List.drop_set_of_lt (by omega)]
  simp
theorem has_cell {wr : World} {B b : Nat} {cs : Array Value} (h : Has wr B 5 cs) (hb : b < cs.size) : ∃ v, wr.cell? ⟨B, b, none⟩ = some v := ⟨cs[b], by rw [h.read b]; simp [hb]⟩

def fmM (k : Nat) (v8 v9 : Value) : Nat := (intOf v8).toNat + (k + 1 - (intOf v9).toNat)

theorem bv_ch (d : Nat) (h : d < 10) (x : Int) (hx : x = 48 + d) : Value.int .u8 x = bv (ch d) := by rw [hx, ← ch_nat d h]; rfl

theorem fm_mk {N k m b : Nat} {acc : List UInt8} {w W : World} {cs : Array Value} {x7 x8 x9 : Int} (h7 : x7 = b) (h8 : x8 = ((m / 10 : Nat) : Int)) (h9 : x9 = acc.length + 1) (hN : N ≤ 1152921504606846976) (hk : k ≤ 9) (hm : m ≤ N)
    (hpw : Hid (m * 10 ^ acc.length < 10 ^ 19)) (hgo : 0 < m ∨ acc.length ≤ k) (hd : dig m (k + 1) acc = dig N (k + 1) []) (hbel : Below w.heap.size w W)
    (hcs : Has W w.heap.size 5 cs) (hz : cs.size = 21) (hl : b + (pt k (ch (m % 10) :: acc)).length = 21) (hdr : cs.toList.drop b = (pt k (ch (m % 10) :: acc)).map bv) :
    FmRel N k w (.int .i64 x7) (.int .i64 x8) (.int .i64 x9) W ∧ fmM k (.int .i64 x8) (.int .i64 x9) < fmM k (.int .i64 m) (.int .i64 (acc.length : Nat)) := by
  have hs := len_step hpw.out
  have h18 : acc.length ≤ 18 := by
    rcases hgo with h | h
    · exact hs.1 h
    · omega
  refine ⟨⟨m / 10, b, ch (m % 10) :: acc, by rw [h7], by rw [h8], by rw [h9]; rfl, by omega, by simp; omega, hs.2, ?_, hbel, cs, hcs, hz, hl, hdr⟩, ?_⟩
  · rw [← hd]; exact (dig_step (by omega) (by omega) (by omega)).symm
  · simp only [fmM, intOf, h8, h9]
    omega

/-- The rest of the block, as a string. -/
theorem to_str {W : World} {B a : Nat} {cs : Array Value} {l : List UInt8} (h : Has W B 5 cs) (hl : a + l.length = 21) (hd : cs.toList.drop a = l.map bv) :
    (convert 47 9 (.slice (some ⟨B, a, none⟩) (21 - a) (21 - a))).run Tryd.prog W = .ok (.string ⟨l.toArray⟩) W := by
  have e : 21 - a = l.length := by omega
  rw [e]
  refine run_convert_bytes_back (P := Tryd.prog) W 47 9 5 ⟨B, a, none⟩ l.length l Tryd.underlying47 Tryd.underlying5 Tryd.underlying9 ?_
  intro j hj
  have hadd : (⟨B, a, none⟩ : Addr).add j = ⟨B, a + j, none⟩ := by unfold Addr.add; split <;> simp_all
  rw [hadd, h.read (a + j)]
  have h2 : (cs.toList.drop a)[j]? = (l.map bv)[j]? := by rw [hd]
  rw [List.getElem?_drop] at h2
  simp only [Array.getElem?_toList] at h2
  rw [h2]
  simp [hj, bv]

theorem format_ok (n : Int) (k : Nat) (w : World) (hk : k ≤ 9) (h1 : -1152921504606846976 ≤ n) (h2 : n ≤ 1152921504606846976) :
    Calls Tryd.prog 11 #[.int .i64 n, .int .i64 k] w fun e w' => e = .returned (.tuple #[.string ⟨(fmtL n k).toArray⟩, .int .i64 0]) ∧ Below w.heap.size w w' := by
  have hp : plB k = true := plB_iff.2 ⟨by omega, by omega⟩
  have hn : numB n = true := numB_iff.2 ⟨h1, h2⟩
  have hmk : ∀ w, (Instr.makeSlice 47 (.int .i64 21) (.int .i64 21)).run Tryd.prog w = .ok (.slice (some ⟨w.heap.size, 0, none⟩) 21 21) (w.alloc (.cells zeros 5)) := fun _ => by kernel_rfl
  go_enter Tryd.func11, Tryd.ntmps11
  go_wp2_with (first | (go_at_call 20; refine (isPlaces_any _ _).mono ?_; rintro e w' ⟨rfl, rfl⟩) | (go_at_call 21; refine (isNumber_any _ _).mono ?_; rintro e w' ⟨rfl, rfl⟩))
  go_loopw [7, 8, 9] (fun v7 v8 v9 wr => FmRel n.natAbs k w v7 v8 v9 wr) (fun _ v8 v9 _ => fmM k v8 v9)
  case atStart =>
    refine ⟨n.natAbs, 21, [], rfl, by rw [show max n (-n) = (n.natAbs : Int) by omega], rfl, Nat.le_refl _, by simp, ?_, rfl, (Below.refl _ _).alloc (Nat.le_refl _) _, zeros, Has.new_ w 5 zeros, rfl, ?_, ?_⟩
    · show n.natAbs * 10 ^ 0 < 10 ^ 19; omega
    · rw [pt_nil]; rfl
    · rw [pt_nil]; rfl
  case round =>
    obtain ⟨m, a, acc, rfl, rfl, rfl, hm, hacc, hpw, hd, hbel, cs, hcs, hcz, hal, hct⟩ := hrel
    have HD := Lib.hid hd; have HCT := Lib.hid hct; clear hd hct
    have hbs := hcs.size_
    have hpl := pt_len k acc
    by_cases hgo : 0 < m ∨ acc.length ≤ k
    · have h18 : acc.length ≤ 18 := by
        rcases hgo with h | h
        · exact (len_step hpw.out).1 h
        · omega
      by_cases hdt : 0 < k ∧ acc.length = k
      · have t1 : ((acc.length : Int) == (k : Int)) = true := by simp; omega
        have t2 : (0 : Int) < (k : Int) := by omega
        obtain ⟨hp1, hp2⟩ := pt_dot (c := ch (m % 10)) hdt.1 hdt.2
        rw [hp2] at hal
        obtain ⟨b, rfl⟩ : ∃ b, a = b + 2 := ⟨a - 2, by omega⟩
        obtain ⟨v0, c0⟩ := has_cell (b := b + 1) hcs (by omega)
        have f0 := hcs.open_ (b + 1)
        have hcs2 := hcs.put_ (b + 1) (.int .u8 46)
        obtain ⟨v1, c1⟩ := has_cell (b := b) hcs2 (by simp; omega)
        have f1 := hcs2.open_ b
        have x1 : (b : Int) + 1 < 21 := by omega
        have H2 := Lib.hid hp2; have H1 := Lib.hid hp1; clear hp1 hp2 hpl
        have fin : ∀ W : World, Has W w.heap.size 5 ((cs.setIfInBounds (b + 1) (.int .u8 46)).setIfInBounds b (.int .u8 (48 + (m : Int) % 10))) → Below w.heap.size w W → ∀ x9 : Int, x9 = acc.length + 1 →
            FmRel n.natAbs k w (.int .i64 ((b : Int) + 2 - 1 - 1)) (.int .i64 ((m : Int) / 10)) (.int .i64 x9) W ∧ fmM k (.int .i64 ((m : Int) / 10)) (.int .i64 x9) < fmM k (.int .i64 m) (.int .i64 (acc.length : Nat)) := by
          intro W hW hB x9 h9
          refine fm_mk (b := b) (by omega) (by omega) h9 (by omega) hk hm hpw hgo HD.out hB hW (by simp; omega) ?_ ?_
          · rw [H1.out]; simp; omega
          · rw [H1.out, put_drop _ _ _ (by simp; omega), put_drop _ _ _ (by omega)]
            have e := HCT.out
            rw [H2.out] at e
            rw [show b + 1 + 1 = b + 2 by omega, e, bv_ch (m % 10) (by omega) _ (by omega)]
            rfl
        have FIN := Lib.hid fin; clear fin
        rcases hgo with hgo | hgo
        · go_wp2
          exact FIN.out _ (hcs2.put_ b _) ((hbel.setCell (Nat.le_refl _) _).setCell (Nat.le_refl _) _) _ (by omega)
        · have hgo2 : (acc.length : Int) ≤ (k : Int) := by omega
          by_cases hp0 : 0 < m
          · go_wp2
            exact FIN.out _ (hcs2.put_ b _) ((hbel.setCell (Nat.le_refl _) _).setCell (Nat.le_refl _) _) _ (by omega)
          · go_wp2
            exact FIN.out _ (hcs2.put_ b _) ((hbel.setCell (Nat.le_refl _) _).setCell (Nat.le_refl _) _) _ (by omega)
      · have hp1 := pt_plain (c := ch (m % 10)) hdt
        have hab : (pt k acc).length ≤ 19 := by rw [hpl]; split <;> omega
        obtain ⟨b, rfl⟩ : ∃ b, a = b + 1 := ⟨a - 1, by omega⟩
        obtain ⟨v0, c0⟩ := has_cell (b := b) hcs (by omega)
        have f0 := hcs.open_ b
        have x1 : (b : Int) < 21 := by omega
        have H1 := Lib.hid hp1; clear hp1 hpl
        have fin : ∀ W : World, Has W w.heap.size 5 (cs.setIfInBounds b (.int .u8 (48 + (m : Int) % 10))) → Below w.heap.size w W → ∀ x7 x9 : Int, x7 = b → x9 = acc.length + 1 →
            FmRel n.natAbs k w (.int .i64 x7) (.int .i64 ((m : Int) / 10)) (.int .i64 x9) W ∧ fmM k (.int .i64 ((m : Int) / 10)) (.int .i64 x9) < fmM k (.int .i64 m) (.int .i64 (acc.length : Nat)) := by
          intro W hW hB x7 x9 h7 h9
          refine fm_mk (b := b) h7 (by omega) h9 (by omega) hk hm hpw hgo HD.out hB hW (by simp; omega) ?_ ?_
          · rw [H1.out]; simp; omega
          · rw [H1.out, put_drop _ _ _ (by omega), HCT.out, bv_ch (m % 10) (by omega) _ (by omega)]
            rfl
        have FIN := Lib.hid fin; clear fin
        by_cases hk0 : 0 < k
        · have t1 : ((acc.length : Int) == (k : Int)) = false := by simp; omega
          by_cases hp0 : 0 < m
          · clear hgo hdt
            go_wp2
            exact FIN.out _ (hcs.put_ b _) (hbel.setCell (Nat.le_refl _) _) _ _ (by omega) (by omega)
          · have hgo2 : (acc.length : Int) ≤ (k : Int) := by omega
            clear hgo hdt
            go_wp2
            exact FIN.out _ (hcs.put_ b _) (hbel.setCell (Nat.le_refl _) _) _ _ (by omega) (by omega)
        · have t2 : ¬ (0 : Int) < (k : Int) := by omega
          by_cases hp0 : 0 < m
          · clear hgo hdt
            cases t1 : ((acc.length : Int) == (k : Int))
            · go_wp2
              exact FIN.out _ (hcs.put_ b _) (hbel.setCell (Nat.le_refl _) _) _ _ (by omega) (by omega)
            · have t3 := eq_of_beq t1
              have T3 := Lib.hid t3; clear t3
              go_wp2
              exact FIN.out _ (hcs.put_ b _) (hbel.setCell (Nat.le_refl _) _) _ _ (by omega) (by have := T3.out; omega)
          · have hgo2 : (acc.length : Int) ≤ (k : Int) := by omega
            have t1 : ((acc.length : Int) == (k : Int)) = true := by simp; omega
            have T3 := Lib.hid (eq_of_beq t1)
            clear hgo hdt
            go_wp2
            exact FIN.out _ (hcs.put_ b _) (hbel.setCell (Nat.le_refl _) _) _ _ (by omega) (by have := T3.out; omega)
    · have hno : ¬ 0 < m := fun h => hgo (.inl h)
      have hno2 : ¬ (acc.length : Int) ≤ (k : Int) := by omega
      have hfin : dig n.natAbs (k + 1) [] = acc := by rw [← HD.out, dig_done (by omega)]
      have HFIN := Lib.hid hfin; clear hfin
      have hlen : (pt k acc).length ≤ 20 ∧ 1 ≤ (pt k acc).length := by rw [hpl]; split <;> omega
      clear hgo hpl
      by_cases hs : n < 0
      · obtain ⟨b, rfl⟩ : ∃ b, a = b + 1 := ⟨a - 1, by omega⟩
        obtain ⟨v0, c0⟩ := has_cell (b := b) hcs (by omega)
        have f0 := hcs.open_ b
        have x1 : (b : Int) < 21 := by omega
        have x2 : (b : Int) + 1 ≤ 21 := by omega
        have hcs2 := hcs.put_ b (.int .u8 45)
        have htx := to_str (a := b) (l := 45 :: pt k acc) hcs2 (by simp; omega) (by rw [put_drop _ _ _ (by omega), HCT.out]; rfl)
        go_wp2
        go_ret2
        exact ⟨by unfold fmtL sgn; rw [if_pos hs, HFIN.out]; rfl, hbel.setCell (Nat.le_refl _) _⟩
      · have htx := to_str (l := pt k acc) hcs hal HCT.out
        go_wp2
        go_ret2
        exact ⟨by unfold fmtL sgn; rw [if_neg (by omega), HFIN.out]; rfl, hbel⟩
end Go.Proofs.YtkabmmpldanmcaaDoor
