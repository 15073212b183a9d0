/- The program's Parse. The program's Parse: its walk. A fraction's text is read back: the pure part. The reference's decimal. The reference's Text. -/
import Derived.Test.YtbbbmlnggehcdaaDoorShp
import Derived.Test.YtbbbmlnggehcdaaDoorTx
import Derived.Test.YtbbbmlnggehcdaaDoorEnv
import Derived.WalkSpells
import Derived.WalkLawsBesides
import Derived.Lib.AtoiAllCases
import Derived.Test.YtbbbmlnggehcdaaDoorRq
namespace Go.Proofs.YtbbbmlnggehcdaaDoor
open Go.ChangeShapes Go.WideShapes Go.ChangeAt Go.RowKit Go.Shelf
set_option linter.unusedVariables false
set_option linter.unusedSimpArgs false

/-- The variables that are read: the tables, and three single cells. -/
def Vars (w : World) : Prop := Tab w ∧ (∃ m, w.cell? ⟨2, 0, none⟩ = some (.int .i64 m)) ∧ (∃ ev, w.cell? ⟨3, 0, none⟩ = some ev ∧ (ev = .nilIface ∨ ∃ te pe, ev = .iface te pe)) ∧ (∃ ev, w.cell? ⟨4, 0, none⟩ = some ev ∧ (ev = .nilIface ∨ ∃ te pe, ev = .iface te pe))
theorem Vars.on {w w1 : World} (h : Vars w) (hb : Below w.heap.size w w1) : Vars w1 := by
  obtain ⟨h1, ⟨m, h2⟩, ⟨a, h3, h4⟩, ⟨b, h5, h6⟩⟩ := h
  exact ⟨h1.on hb, ⟨m, cell_later hb h2⟩, ⟨a, cell_later hb h3, h4⟩, ⟨b, cell_later hb h5, h6⟩⟩
theorem cut_any (s : ByteArray) (w : World) (hs : s.size < 4294967281) (hV : Vars w) {o u : List UInt8} {b : Bool} (hc : Lib.cut s.data.toList [47] = (o, u, b)) :
    Calls Tryd.prog 60 #[.string s, .string ⟨#[47]⟩] w fun e w' => e = .returned (.tuple #[.string ⟨o.toArray⟩, .string ⟨u.toArray⟩, .bool b]) ∧ Below w.heap.size w w' := by
  obtain ⟨m, hm⟩ := hV.2.1
  have h := Tryd.strings_Cut s ⟨#[47]⟩ m w hs hm
  rw [show (ByteArray.mk #[47]).data.toList = [47] from rfl, hc] at h
  exact h.mono fun e w' k => ⟨k.1, by obtain ⟨n, rfl⟩ := k.2; exact below_drewN (Below.refl _ _) n⟩
theorem atoi_ok (s : ByteArray) (w : World) (hs : s.size ≤ 9223372036854775806) (v : Int) (h : Lib.atoiAll s.data.toList = .ok v) :
    Calls Tryd.prog 61 #[.string s] w fun e w' => e = .returned (.tuple #[.int .i64 v, .nilIface]) ∧ Below w.heap.size w w' :=
  (Any.strconv_Atoi_ok Tryd.laysC172 s hs v h w).mono fun e w' k => ⟨k.1, by
    rcases k.2 with rfl | ⟨t, rfl⟩
    · exact Below.refl _ _
    · exact Lib.bytesWorld_below _ _ _⟩
theorem atoi_no (s : ByteArray) (w : World) (hs : s.size ≤ 281474976710656) (hV : Vars w) (h : ∀ v, Lib.atoiAll s.data.toList ≠ .ok v) :
    Calls Tryd.prog 61 #[.string s] w fun e w' => ∃ v N, e = .returned (.tuple #[.int .i64 v, .iface 106 (.pointer (some ⟨N, 0, none⟩))]) ∧ Below w.heap.size w w' := by
  obtain ⟨-, -, ⟨a, h3, h4⟩, ⟨b, h5, h6⟩⟩ := hV
  rcases k : Lib.atoiAll s.data.toList with v | _ | _
  · exact absurd k (h v)
  · exact (Any.strconv_Atoi_syntax Tryd.laysC172 s hs k a w h3 h4).mono fun e w' ⟨N, q, _, _, hb⟩ => ⟨_, N, q, hb⟩
  · exact (Any.strconv_Atoi_range Tryd.laysC172 s hs k b w h5 h6).mono fun e w' ⟨N, q, _, _, hb⟩ => ⟨_, N, q, hb⟩
end Go.Proofs.YtbbbmlnggehcdaaDoor
namespace Go.Proofs.YtbbbmlnggehcdaaDoor
open Go.ChangeShapes Go.WideShapes Go.ChangeAt Go.RowKit Go.Shelf
set_option linter.unusedVariables false
set_option linter.unusedSimpArgs false

def under (b : Bool) (u : List UInt8) : List UInt8 := if b then u else [49]
set_option maxRecDepth 100000 in
set_option maxHeartbeats 4000000 in
theorem parse_ok (s : ByteArray) (w : World) (hV : Vars w) (o u : List UInt8) (b : Bool) (n d : Int) (hs : s.size ≤ 1000)
    (hC : ∀ W, Vars W → Calls Tryd.prog 60 #[.string s, .string ⟨#[47]⟩] W fun e w' => e = .returned (.tuple #[.string ⟨o.toArray⟩, .string ⟨u.toArray⟩, .bool b]) ∧ Below W.heap.size W w')
    (hN : ∀ W, Calls Tryd.prog 61 #[.string ⟨o.toArray⟩] W fun e w' => e = .returned (.tuple #[.int .i64 n, .nilIface]) ∧ Below W.heap.size W w')
    (hD : ∀ W, Calls Tryd.prog 61 #[.string ⟨(under b u).toArray⟩] W fun e w' => e = .returned (.tuple #[.int .i64 d, .nilIface]) ∧ Below W.heap.size W w')
    (v : V n d) (ht : (⟨(textL n d).toArray⟩ : ByteArray) = s) :
    Calls Tryd.prog 36 #[.string s] w fun e w' => e = .returned (.tuple #[.agg #[.int .i64 n, .int .i64 d], .int .i64 0]) ∧ Below w.heap.size w w' := by
  have hT := fun W (h : Vars W) => text_ok n d W v h.1
  rw [ht] at hT
  have E0 := env_one w 0 0
  have V0 := hV.on (al1 w (.cells #[.int .i64 0, .int .i64 0] 23))
  clear v ht
  cases b
  all_goals simp only [under, Bool.false_eq_true, if_false, if_true] at hD
  all_goals go_enter Tryd.func36, Tryd.ntmps36
  all_goals go_wp2_with (first | (go_at_call 60; refine (hC _ V0).mono ?_; rintro e w1 ⟨rfl, hb⟩; replace E0 := E0.on hb; replace V0 := V0.on hb; clear hb) | (go_at_call 61; first | ((with_reducible refine (hN _).mono ?_); rintro e w1 ⟨rfl, hb⟩; replace E0 := E0.on hb; replace V0 := V0.on hb; clear hb) | ((with_reducible refine (hD _).mono ?_); rintro e w1 ⟨rfl, hb⟩; replace E0 := E0.on hb; replace V0 := V0.on hb; clear hb)) | (go_at_call 34; refine (hT _ (V0.on (al1 _ _))).mono ?_; rintro e w1 ⟨rfl, hb⟩; replace E0 := (E0.add n d).on hb; have C := E0.cells; simp only [BC] at C; have F1 := Has.open_ E0.2.2.1 0; have F2 := Has.open_ E0.2.2.1 1; clear hb))
  all_goals refine bodyPost_ret (v := .tuple #[.agg #[.int .i64 n, .int .i64 d], .int .i64 0]) (by simp [results, Tryd.results36, go_sem, C]) rfl ⟨rfl, ?_⟩
  all_goals exact (E0.1.setCell (by simp) _).setCell (by simp) _

set_option maxRecDepth 100000 in
set_option maxHeartbeats 4000000 in
theorem parse_no1 (s : ByteArray) (w : World) (hV : Vars w) (o u : List UInt8) (b : Bool) (hs : s.size ≤ 1000)
    (hC : ∀ W, Vars W → Calls Tryd.prog 60 #[.string s, .string ⟨#[47]⟩] W fun e w' => e = .returned (.tuple #[.string ⟨o.toArray⟩, .string ⟨u.toArray⟩, .bool b]) ∧ Below W.heap.size W w')
    (hN : ∀ W, Vars W → Calls Tryd.prog 61 #[.string ⟨o.toArray⟩] W fun e w' => ∃ v N, e = .returned (.tuple #[.int .i64 v, .iface 106 (.pointer (some ⟨N, 0, none⟩))]) ∧ Below W.heap.size W w')
    (hD : ∀ W, Vars W → Calls Tryd.prog 61 #[.string ⟨(under b u).toArray⟩] W fun e w' => ∃ v f, e = .returned (.tuple #[.int .i64 v, f]) ∧ Below W.heap.size W w') :
    Calls Tryd.prog 36 #[.string s] w fun e w' => e = .returned (.tuple #[.agg #[.int .i64 0, .int .i64 0], .int .i64 7]) ∧ Below w.heap.size w w' := by
  have E0 := env_one w 0 0
  have V0 := hV.on (al1 w (.cells #[.int .i64 0, .int .i64 0] 23))
  cases b
  all_goals simp only [under, Bool.false_eq_true, if_false, if_true] at hD
  all_goals go_enter Tryd.func36, Tryd.ntmps36
  all_goals go_wp2_with (first | (go_at_call 60; refine (hC _ V0).mono ?_; rintro e w1 ⟨rfl, hb⟩; replace E0 := E0.on hb; replace V0 := V0.on hb; clear hb; (try clear C F1 F2); have C := E0.cells; simp only [BC] at C; have F1 := Has.open_ E0.2.1 0; have F2 := Has.open_ E0.2.1 1) | (go_at_call 61; first | ((with_reducible refine (hN _ V0).mono ?_); rintro e w1 ⟨v1, N1, rfl, hb⟩; replace E0 := E0.on hb; replace V0 := V0.on hb; clear hb; (try clear C F1 F2); have C := E0.cells; simp only [BC] at C; have F1 := Has.open_ E0.2.1 0; have F2 := Has.open_ E0.2.1 1) | ((with_reducible refine (hD _ V0).mono ?_); rintro e w1 ⟨v2, f2, rfl, hb⟩; replace E0 := E0.on hb; replace V0 := V0.on hb; clear hb; (try clear C F1 F2); have C := E0.cells; simp only [BC] at C; have F1 := Has.open_ E0.2.1 0; have F2 := Has.open_ E0.2.1 1)))
  all_goals refine bodyPost_ret (v := .tuple #[.agg #[.int .i64 0, .int .i64 0], .int .i64 7]) (by simp [results, Tryd.results36, go_sem, C]) rfl ⟨rfl, ?_⟩
  all_goals first | exact (E0.1.setCell (by simp) _).setCell (by simp) _ | exact E0.1

set_option maxRecDepth 100000 in
set_option maxHeartbeats 4000000 in
theorem parse_no2 (s : ByteArray) (w : World) (hV : Vars w) (o u : List UInt8) (b : Bool) (n : Int) (hs : s.size ≤ 1000)
    (hC : ∀ W, Vars W → Calls Tryd.prog 60 #[.string s, .string ⟨#[47]⟩] W fun e w' => e = .returned (.tuple #[.string ⟨o.toArray⟩, .string ⟨u.toArray⟩, .bool b]) ∧ Below W.heap.size W w')
    (hN : ∀ W, Calls Tryd.prog 61 #[.string ⟨o.toArray⟩] W fun e w' => e = .returned (.tuple #[.int .i64 n, .nilIface]) ∧ Below W.heap.size W w')
    (hD : ∀ W, Vars W → Calls Tryd.prog 61 #[.string ⟨(under b u).toArray⟩] W fun e w' => ∃ v N, e = .returned (.tuple #[.int .i64 v, .iface 106 (.pointer (some ⟨N, 0, none⟩))]) ∧ Below W.heap.size W w') :
    Calls Tryd.prog 36 #[.string s] w fun e w' => e = .returned (.tuple #[.agg #[.int .i64 0, .int .i64 0], .int .i64 7]) ∧ Below w.heap.size w w' := by
  have E0 := env_one w 0 0
  have V0 := hV.on (al1 w (.cells #[.int .i64 0, .int .i64 0] 23))
  cases b
  all_goals simp only [under, Bool.false_eq_true, if_false, if_true] at hD
  all_goals go_enter Tryd.func36, Tryd.ntmps36
  all_goals go_wp2_with (first | (go_at_call 60; refine (hC _ V0).mono ?_; rintro e w1 ⟨rfl, hb⟩; replace E0 := E0.on hb; replace V0 := V0.on hb; clear hb; (try clear C F1 F2); have C := E0.cells; simp only [BC] at C; have F1 := Has.open_ E0.2.1 0; have F2 := Has.open_ E0.2.1 1) | (go_at_call 61; first | ((with_reducible refine (hN _).mono ?_); rintro e w1 ⟨rfl, hb⟩; replace E0 := E0.on hb; replace V0 := V0.on hb; clear hb; (try clear C F1 F2); have C := E0.cells; simp only [BC] at C; have F1 := Has.open_ E0.2.1 0; have F2 := Has.open_ E0.2.1 1) | ((with_reducible refine (hD _ V0).mono ?_); rintro e w1 ⟨v2, N2, rfl, hb⟩; replace E0 := E0.on hb; replace V0 := V0.on hb; clear hb; (try clear C F1 F2); have C := E0.cells; simp only [BC] at C; have F1 := Has.open_ E0.2.1 0; have F2 := Has.open_ E0.2.1 1)))
  all_goals refine bodyPost_ret (v := .tuple #[.agg #[.int .i64 0, .int .i64 0], .int .i64 7]) (by simp [results, Tryd.results36, go_sem, C]) rfl ⟨rfl, ?_⟩
  all_goals first | exact (E0.1.setCell (by simp) _).setCell (by simp) _ | exact E0.1

set_option maxRecDepth 100000 in
set_option maxHeartbeats 4000000 in
theorem parse_no3 (s : ByteArray) (w : World) (hV : Vars w) (o u : List UInt8) (b : Bool) (n d : Int) (hs : s.size ≤ 1000)
    (hC : ∀ W, Vars W → Calls Tryd.prog 60 #[.string s, .string ⟨#[47]⟩] W fun e w' => e = .returned (.tuple #[.string ⟨o.toArray⟩, .string ⟨u.toArray⟩, .bool b]) ∧ Below W.heap.size W w')
    (hN : ∀ W, Calls Tryd.prog 61 #[.string ⟨o.toArray⟩] W fun e w' => e = .returned (.tuple #[.int .i64 n, .nilIface]) ∧ Below W.heap.size W w')
    (hD : ∀ W, Calls Tryd.prog 61 #[.string ⟨(under b u).toArray⟩] W fun e w' => e = .returned (.tuple #[.int .i64 d, .nilIface]) ∧ Below W.heap.size W w')
    (i1 : I64 n) (i2 : I64 d) (hv : vB n d = false) :
    Calls Tryd.prog 36 #[.string s] w fun e w' => e = .returned (.tuple #[.agg #[.int .i64 0, .int .i64 0], .int .i64 7]) ∧ Below w.heap.size w w' := by
  have hT := fun W (h : Vars W) => text_bad n d W i1.1 i1.2 i2.1 i2.2 hv
  have E0 := env_one w 0 0
  have V0 := hV.on (al1 w (.cells #[.int .i64 0, .int .i64 0] 23))
  cases b
  all_goals simp only [under, Bool.false_eq_true, if_false, if_true] at hD
  all_goals go_enter Tryd.func36, Tryd.ntmps36
  all_goals go_wp2_with (first | (go_at_call 60; refine (hC _ V0).mono ?_; rintro e w1 ⟨rfl, hb⟩; replace E0 := E0.on hb; replace V0 := V0.on hb; clear hb) | (go_at_call 61; first | ((with_reducible refine (hN _).mono ?_); rintro e w1 ⟨rfl, hb⟩; replace E0 := E0.on hb; replace V0 := V0.on hb; clear hb) | ((with_reducible refine (hD _).mono ?_); rintro e w1 ⟨rfl, hb⟩; replace E0 := E0.on hb; replace V0 := V0.on hb; clear hb)) | (go_at_call 34; refine (hT _ (V0.on (al1 _ _))).mono ?_; rintro e w1 ⟨rfl, hb⟩; replace E0 := (E0.add n d).on hb; have C := E0.cells; simp only [BC] at C; have F1 := Has.open_ E0.2.2.1 0; have F2 := Has.open_ E0.2.2.1 1; clear hb))
  all_goals refine bodyPost_ret (v := .tuple #[.agg #[.int .i64 0, .int .i64 0], .int .i64 7]) (by simp [results, Tryd.results36, go_sem, C]) rfl ⟨rfl, ?_⟩
  all_goals first | exact (E0.1.setCell (by simp) _).setCell (by simp) _ | exact E0.1

set_option maxRecDepth 100000 in
set_option maxHeartbeats 4000000 in
theorem parse_no4 (s : ByteArray) (w : World) (hV : Vars w) (o u : List UInt8) (b : Bool) (n d : Int) (hs : s.size ≤ 1000)
    (hC : ∀ W, Vars W → Calls Tryd.prog 60 #[.string s, .string ⟨#[47]⟩] W fun e w' => e = .returned (.tuple #[.string ⟨o.toArray⟩, .string ⟨u.toArray⟩, .bool b]) ∧ Below W.heap.size W w')
    (hN : ∀ W, Calls Tryd.prog 61 #[.string ⟨o.toArray⟩] W fun e w' => e = .returned (.tuple #[.int .i64 n, .nilIface]) ∧ Below W.heap.size W w')
    (hD : ∀ W, Calls Tryd.prog 61 #[.string ⟨(under b u).toArray⟩] W fun e w' => e = .returned (.tuple #[.int .i64 d, .nilIface]) ∧ Below W.heap.size W w')
    (v : V n d) (ht : (textL n d == s.toList) = false) :
    Calls Tryd.prog 36 #[.string s] w fun e w' => e = .returned (.tuple #[.agg #[.int .i64 0, .int .i64 0], .int .i64 7]) ∧ Below w.heap.size w w' := by
  have hT := fun W (h : Vars W) => text_ok n d W v h.1
  have E0 := env_one w 0 0
  have V0 := hV.on (al1 w (.cells #[.int .i64 0, .int .i64 0] 23))
  cases b
  all_goals simp only [under, Bool.false_eq_true, if_false, if_true] at hD
  all_goals go_enter Tryd.func36, Tryd.ntmps36
  all_goals go_wp2_with (first | (go_at_call 60; refine (hC _ V0).mono ?_; rintro e w1 ⟨rfl, hb⟩; replace E0 := E0.on hb; replace V0 := V0.on hb; clear hb) | (go_at_call 61; first | ((with_reducible refine (hN _).mono ?_); rintro e w1 ⟨rfl, hb⟩; replace E0 := E0.on hb; replace V0 := V0.on hb; clear hb) | ((with_reducible refine (hD _).mono ?_); rintro e w1 ⟨rfl, hb⟩; replace E0 := E0.on hb; replace V0 := V0.on hb; clear hb)) | (go_at_call 34; refine (hT _ (V0.on (al1 _ _))).mono ?_; rintro e w1 ⟨rfl, hb⟩; replace E0 := (E0.add n d).on hb; have C := E0.cells; simp only [BC] at C; have F1 := Has.open_ E0.2.2.1 0; have F2 := Has.open_ E0.2.2.1 1; clear hb))
  all_goals refine bodyPost_ret (v := .tuple #[.agg #[.int .i64 0, .int .i64 0], .int .i64 7]) (by simp [results, Tryd.results36, go_sem, C]) rfl ⟨rfl, ?_⟩
  all_goals first | exact (E0.1.setCell (by simp) _).setCell (by simp) _ | exact E0.1

/-- The numbers of a text, before the text is made of them again. -/
def candP (s : List UInt8) : Option (Int × Int) :=
  match Lib.atoiAll (Lib.cut s [47]).1, Lib.atoiAll (under (Lib.cut s [47]).2.2 (Lib.cut s [47]).2.1) with
  | .ok n, .ok d => some (n, d)
  | _, _ => none
def parseR (s : List UInt8) : Int × Int × Int :=
  match candP s with
  | some (n, d) => if V n d ∧ textL n d = s then (n, d, 0) else (0, 0, 7)
  | none => (0, 0, 7)
theorem cut_size (s : List UInt8) : (Lib.cut s [47]).1.length ≤ s.length ∧ (Lib.cut s [47]).2.1.length ≤ s.length := by
  unfold Lib.cut
  split <;> simp <;> omega
theorem parse_any (s : ByteArray) (w : World) (hs : s.size ≤ 1000) (hV : Vars w) {x q e0 : Int} (hr : parseR s.data.toList = (x, q, e0)) :
    Calls Tryd.prog 36 #[.string s] w fun e w' => e = .returned (.tuple #[.agg #[.int .i64 x, .int .i64 q], .int .i64 e0]) ∧ Below w.heap.size w w' := by
  obtain ⟨z1, z2⟩ := cut_size s.data.toList
  have sl : s.data.toList.length = s.size := by rw [Array.length_toList]; rfl
  have hC : ∀ W, Vars W → _ := fun W h => cut_any s W (by omega) h (o := (Lib.cut s.data.toList [47]).1) (u := (Lib.cut s.data.toList [47]).2.1) (b := (Lib.cut s.data.toList [47]).2.2) rfl
  have zu : (under (Lib.cut s.data.toList [47]).2.2 (Lib.cut s.data.toList [47]).2.1).length ≤ 1000 := by
    unfold under; split
    · omega
    · simp
  unfold parseR candP at hr
  generalize (Lib.cut s.data.toList [47]).1 = o at *
  generalize (Lib.cut s.data.toList [47]).2.1 = u at *
  generalize (Lib.cut s.data.toList [47]).2.2 = b at *
  have so : (ByteArray.mk o.toArray).data.toList = o := by simp
  have su : (ByteArray.mk (under b u).toArray).data.toList = under b u := by simp
  have no1 : ∀ l : List UInt8, (∀ v, Lib.atoiAll l ≠ .ok v) → l.length ≤ 1000 → ∀ W, Vars W → Calls Tryd.prog 61 #[.string ⟨l.toArray⟩] W fun e w' => ∃ v N, e = .returned (.tuple #[.int .i64 v, .iface 106 (.pointer (some ⟨N, 0, none⟩))]) ∧ Below W.heap.size W w' :=
    fun l h hl W hW => atoi_no ⟨l.toArray⟩ W (by simp [ByteArray.size]; omega) hW (by simpa using h)
  have ok1 : ∀ (l : List UInt8) (v : Int), Lib.atoiAll l = .ok v → l.length ≤ 1000 → ∀ W, Calls Tryd.prog 61 #[.string ⟨l.toArray⟩] W fun e w' => e = .returned (.tuple #[.int .i64 v, .nilIface]) ∧ Below W.heap.size W w' :=
    fun l v h hl W => atoi_ok ⟨l.toArray⟩ W (by simp [ByteArray.size]; omega) v (by simpa using h)
  by_cases hN : ∃ n, Lib.atoiAll o = .ok n
  · obtain ⟨n, hN⟩ := hN
    by_cases hD : ∃ d, Lib.atoiAll (under b u) = .ok d
    · obtain ⟨d, hD⟩ := hD
      rw [hN, hD] at hr
      simp only at hr
      have b1 := Lib.atoiAll_bounds hN
      have b2 := Lib.atoiAll_bounds hD
      by_cases v : V n d
      · by_cases ht : textL n d = s.data.toList
        · rw [if_pos ⟨v, ht⟩] at hr
          simp only [Prod.mk.injEq] at hr; obtain ⟨rfl, rfl, rfl⟩ := hr
          exact parse_ok s w hV o u b n d hs hC (ok1 _ _ hN (by omega)) (ok1 _ _ hD zu) v (by rw [ht])
        · rw [if_neg (fun h => ht h.2)] at hr
          simp only [Prod.mk.injEq] at hr; obtain ⟨rfl, rfl, rfl⟩ := hr
          exact parse_no4 s w hV o u b n d hs hC (ok1 _ _ hN (by omega)) (ok1 _ _ hD zu) v (by rw [Lib.toList_data]; simpa using ht)
      · rw [if_neg (fun h => v h.1)] at hr
        simp only [Prod.mk.injEq] at hr; obtain ⟨rfl, rfl, rfl⟩ := hr
        exact parse_no3 s w hV o u b n d hs hC (ok1 _ _ hN (by omega)) (ok1 _ _ hD zu) b1 b2 (by simp [vB, v])
    · have hD' : ∀ v, Lib.atoiAll (under b u) ≠ .ok v := fun v h => hD ⟨v, h⟩
      have : (0, 0, 7) = (x, q, e0) := by
        rw [hN] at hr
        revert hr
        rcases h : Lib.atoiAll (under b u) with d | _ | _
        · exact absurd h (hD' d)
        · exact id
        · exact id
      simp only [Prod.mk.injEq] at this; obtain ⟨rfl, rfl, rfl⟩ := this
      exact parse_no2 s w hV o u b n hs hC (ok1 _ _ hN (by omega)) (no1 _ hD' zu)
  · have hN' : ∀ v, Lib.atoiAll o ≠ .ok v := fun v h => hN ⟨v, h⟩
    have : (0, 0, 7) = (x, q, e0) := by
      revert hr
      rcases h : Lib.atoiAll o with d | _ | _
      · exact absurd h (hN' d)
      · cases Lib.atoiAll (under b u) <;> exact id
      · cases Lib.atoiAll (under b u) <;> exact id
    simp only [Prod.mk.injEq] at this; obtain ⟨rfl, rfl, rfl⟩ := this
    refine parse_no1 s w hV o u b hs hC (no1 _ hN' (by omega)) fun W hW => ?_
    by_cases hD : ∃ d, Lib.atoiAll (under b u) = .ok d
    · obtain ⟨d, hD⟩ := hD
      exact (ok1 _ _ hD zu W).mono fun e w' h => ⟨d, _, h.1, h.2⟩
    · exact (no1 _ (fun v h => hD ⟨v, h⟩) zu W hW).mono fun e w' ⟨v, N, h, hb⟩ => ⟨v, _, h, hb⟩
end Go.Proofs.YtbbbmlnggehcdaaDoor
namespace Go.Proofs.YtbbbmlnggehcdaaDoor
open Go.ChangeShapes Go.WideShapes Go.ChangeAt Go.RowKit Go.Shelf
set_option linter.unusedVariables false
set_option linter.unusedSimpArgs false

theorem dig_nat (k : Nat) (h : k < 10) : (UInt8.ofNat (48 + k)).toNat = 48 + k := by
  rw [UInt8.toNat_ofNat']; omega
theorem p10_app : ∀ (l m : List UInt8) (a u : Nat), Lib.parseUint10 a l = .ok u → Lib.parseUint10 a (l ++ m) = Lib.parseUint10 u m
  | [], m, a, u, h => by
    simp only [Lib.parseUint10] at h
    injection h with h
    rw [h]; rfl
  | c :: l, m, a, u, h => by
    simp only [List.cons_append, Lib.parseUint10] at h ⊢
    split at h
    · rename_i h1
      rw [if_pos h1]
      split at h
      · cases h
      · rename_i h2
        rw [if_neg h2]
        split at h
        · cases h
        · rename_i h3
          rw [if_neg h3]
          exact p10_app l m _ u h
    · cases h
theorem p10_one (a k : Nat) (hk : k < 10) (h : a * 10 + k ≤ 1152921504606846976) : Lib.parseUint10 a [UInt8.ofNat (48 + k)] = .ok (a * 10 + k) := by
  simp only [Lib.parseUint10, dig_nat k hk]
  rw [if_pos (by omega), if_neg (by omega), if_neg (by omega)]
  congr 1; omega
theorem p10_dec (u : Nat) (h : u ≤ 1152921504606846976) : Lib.parseUint10 0 (Lib.decDigits u) = .ok u := by
  induction u using Nat.strongRecOn with
  | ind u ih =>
    rw [Lib.decDigits]
    split
    · rename_i hu
      rw [p10_one 0 u hu (by omega)]; congr 1; omega
    · rename_i hu
      rw [p10_app _ _ _ _ (ih (u / 10) (by omega) (by omega)), p10_one _ _ (by omega) (by omega)]
      congr 1; omega
theorem dec_ne (u : Nat) : Lib.decDigits u ≠ [] := by
  rw [Lib.decDigits]; split <;> simp
theorem dec_mem (u : Nat) : ∀ c ∈ Lib.decDigits u, 48 ≤ c.toNat ∧ c.toNat ≤ 57 := by
  induction u using Nat.strongRecOn with
  | ind u ih =>
    rw [Lib.decDigits]
    split
    · rename_i hu
      intro c hc
      rw [List.mem_singleton.1 hc, dig_nat u hu]; omega
    · rename_i hu
      intro c hc
      rcases List.mem_append.1 hc with hc | hc
      · exact ih (u / 10) (by omega) c hc
      · rw [List.mem_singleton.1 hc, dig_nat _ (by omega)]; omega
theorem mag_dec (u : Nat) (h : u ≤ 1152921504606846976) : Lib.parseMag (Lib.decDigits u) = .ok u := by
  unfold Lib.parseMag; rw [if_neg (dec_ne u), p10_dec u h]
theorem atoi_itoa (n : Int) (h0 : -1152921504606846976 ≤ n) (h1 : n ≤ 1152921504606846976) : Lib.atoiAll (Lib.itoa n) = .ok n := by
  unfold Lib.itoa
  split
  · rw [Lib.atoiAll_minus, mag_dec _ (by omega)]
    show (if 9223372036854775808 < n.natAbs then _ else _) = _
    rw [if_neg (by omega)]; congr 1; omega
  · have hm := dec_mem n.toNat
    cases hd : Lib.decDigits n.toNat with
    | nil => exact absurd hd (dec_ne _)
    | cons c r =>
      have hc := hm c (by rw [hd]; simp)
      rw [Lib.atoiAll_plain c r (by omega) (by omega), ← hd, mag_dec _ (by omega)]
      show (if 9223372036854775808 ≤ n.toNat then _ else _) = _
      rw [if_neg (by omega)]; congr 1; omega
theorem itoa_ne47 (n : Int) : ∀ c ∈ Lib.itoa n, c ≠ 47 := by
  intro c hc e
  subst e
  unfold Lib.itoa at hc
  split at hc
  · rcases List.mem_cons.1 hc with h | h
    · cases h
    · have := dec_mem _ _ h; revert this; decide
  · have := dec_mem _ _ hc; revert this; decide
theorem idx_none : ∀ (l : List UInt8), (∀ c ∈ l, c ≠ 47) → Lib.indexByte l 47 = -1
  | [], _ => rfl
  | c :: l, h => by
    have hc := h c (by simp)
    have ih := idx_none l fun c hc => h c (by simp [hc])
    simp [Lib.indexByte, hc, ih]
theorem idx_some (r : List UInt8) : ∀ (l : List UInt8), (∀ c ∈ l, c ≠ 47) → Lib.indexByte (l ++ 47 :: r) 47 = l.length
  | [], _ => by simp [Lib.indexByte]
  | c :: l, h => by
    have hc := h c (by simp)
    have ih := idx_some r l fun c hc => h c (by simp [hc])
    simp only [List.cons_append, Lib.indexByte, ih]
    simp [hc]
    first | done | omega
theorem cut_no (l : List UInt8) (h : ∀ c ∈ l, c ≠ 47) : Lib.cut l [47] = (l, [], false) := by
  unfold Lib.cut; rw [Lib.index_one, idx_none l h, if_neg (by omega)]
theorem cut_at (l r : List UInt8) (h : ∀ c ∈ l, c ≠ 47) : Lib.cut (l ++ 47 :: r) [47] = (l, r, true) := by
  unfold Lib.cut; rw [Lib.index_one, idx_some r l h, if_pos (by omega)]
  simp
theorem cand_text {n d : Int} (v : V n d) : candP (textL n d) = some (n, d) := by
  obtain ⟨d1, d2, n1, n2, -⟩ := v
  by_cases h : d = 1
  · have e : textL n d = Lib.itoa n := by unfold textL; rw [if_pos h]
    rw [e]
    unfold candP
    rw [cut_no _ (itoa_ne47 n), h]
    simp only [under, Bool.false_eq_true, if_false, atoi_itoa n n1 n2]
    rw [show Lib.atoiAll [49] = .ok 1 from by decide]
  · have e : textL n d = Lib.itoa n ++ 47 :: Lib.itoa d := by unfold textL; rw [if_neg h]
    rw [e]
    unfold candP
    rw [cut_at _ _ (itoa_ne47 n)]
    simp only [under, if_true, atoi_itoa n n1 n2, atoi_itoa d (by omega) d2]
theorem parse_text {n d : Int} (v : V n d) : parseR (textL n d) = (n, d, 0) := by
  unfold parseR; rw [cand_text v]; simp only; simp [v]
theorem parse_is {s : List UInt8} {x q e : Int} (h : parseR s = (x, q, e)) : (e = 0 ∧ V x q ∧ textL x q = s) ∨ (x = 0 ∧ q = 0 ∧ e = 7) := by
  unfold parseR at h
  cases hc : candP s with
  | none => rw [hc] at h; simp only [Prod.mk.injEq] at h; right; omega
  | some p =>
    obtain ⟨n, d⟩ := p
    rw [hc] at h
    simp only at h
    split at h
    · rename_i k
      simp only [Prod.mk.injEq] at h; obtain ⟨rfl, rfl, rfl⟩ := h; exact .inl ⟨rfl, k⟩
    · simp only [Prod.mk.injEq] at h; right; omega
end Go.Proofs.YtbbbmlnggehcdaaDoor
namespace Go.Proofs.YtbbbmlnggehcdaaDoor
open Go.ChangeShapes Go.WideShapes Go.ChangeAt Go.RowKit Go.Shelf
set_option linter.unusedVariables false
set_option linter.unusedSimpArgs false
set_option linter.unnecessarySimpa false

theorem conv_one (W : World) (k : Nat) (hk : k < 10) :
    Sem.run Tryd.prog (convert 96 9 (.slice (some ⟨W.heap.size, 0, none⟩) 1 1)) (W.alloc (.cells #[.int .u8 (48 + (k : Int))] 5)) = .ok (.string ⟨[UInt8.ofNat (48 + k)].toArray⟩) (W.alloc (.cells #[.int .u8 (48 + (k : Int))] 5)) := by
  refine run_convert_bytes_back (P := Tryd.prog) _ 96 9 5 ⟨W.heap.size, 0, none⟩ 1 [UInt8.ofNat (48 + k)] Tryd.underlying96 Tryd.underlying5 Tryd.underlying9 fun j hj => ?_
  have : j = 0 := by simp at hj; omega
  subst this
  simp only [List.getElem_cons_zero, dig_nat k hk]
  have h := (Has.new_ W 5 #[.int .u8 (48 + (k : Int))]).read 0
  exact h

theorem b_cons (c : UInt8) (T : ByteArray) : (ByteArray.mk #[c] ++ T).data.toList = c :: T.data.toList := by
  simp [ByteArray.data_append]
theorem b_eq {S : ByteArray} {l : List UInt8} (h : S.data.toList = l) : S = ⟨l.toArray⟩ := by
  subst h; simp
theorem b_size (S : ByteArray) : S.size = S.data.toList.length := by rw [Array.length_toList]; rfl
theorem c48 (k : Nat) : 48 + UInt8.ofNat k = UInt8.ofNat (48 + k) := by
  rw [UInt8.ofNat_add]; rfl

set_option maxRecDepth 100000 in
set_option maxHeartbeats 4000000 in
theorem decimal_any (n : Nat) (w : World) (hn : n ≤ 9223372036854775808) :
    Calls Tryd.prog 59 #[.int .u64 n] w fun e w' => e = .returned (.string ⟨(Lib.decDigits n).toArray⟩) ∧ Below w.heap.size w w' := by
  go_enter Tryd.func59, Tryd.ntmps59
  go_wp2
  go_loopw [0, 3] (fun a b wr => ∃ (m : Nat) (T : ByteArray), a = .int .u64 m ∧ b = .string T ∧ m ≤ n ∧ Hid True ∧ Hid (Lib.decDigits m ++ T.data.toList = Lib.decDigits n) ∧ Below w.heap.size w wr) (fun a _ _ => (intOf a).toNat)
  case atStart => exact ⟨n, ⟨#[]⟩, rfl, rfl, Nat.le_refl _, Lib.hid trivial, Lib.hid (by simp), Below.refl _ _⟩
  case round =>
    obtain ⟨m, T, rfl, rfl, hm, hz, hG, hB⟩ := hrel
    have hT : T.size ≤ 9223372036854775000 := by
      have h := congrArg List.length hG.out
      rw [List.length_append, ← b_size] at h
      have := nDigits_le 19 n (by omega)
      rw [← Lib.decDigits_length] at this
      omega
    clear hz
    by_cases hlt : 9 < m
    · have g : decide ((9 : Int) < (m : Int)) = true := by simp; omega
      have hcv := conv_one wr (m % 10) (Nat.mod_lt _ (by omega))
      rw [show ((m % 10 : Nat) : Int) = (m : Int) % 10 by omega] at hcv
      go_wp2
      refine ⟨⟨m / 10, _, by rfl, rfl, by omega, Lib.hid trivial, Lib.hid ?_, belows hB (al1 _ _)⟩, by simp [intOf]; omega⟩
      rw [b_cons, c48, ← hG.out]
      conv => rhs; rw [Lib.decDigits, dif_neg (by omega)]
      simp
    · have g : decide ((9 : Int) < (m : Int)) = false := by simp; omega
      have hcv := conv_one wr m (by omega)
      go_wp2
      go_ret
      refine ⟨?_, belows hB (al1 _ _)⟩
      rw [← hG.out, Lib.decDigits, dif_pos (by omega)]
      exact congrArg (fun s => Ending.returned (.string s)) (b_eq (by rw [b_cons, c48]; rfl))
end Go.Proofs.YtbbbmlnggehcdaaDoor
namespace Go.Proofs.YtbbbmlnggehcdaaDoor
open Go.ChangeShapes Go.WideShapes Go.ChangeAt Go.RowKit Go.Shelf
set_option linter.unusedVariables false
set_option linter.unusedSimpArgs false

theorem b_app (S T : ByteArray) : (S ++ T).data.toList = S.data.toList ++ T.data.toList := by simp [ByteArray.data_append]
theorem b_szapp (S T : ByteArray) : (S ++ T).size = S.size + T.size := by rw [b_size, b_app, List.length_append, ← b_size, ← b_size]
set_option maxRecDepth 100000 in
set_option maxHeartbeats 4000000 in
theorem rtext_ok (n d : Int) (w : World) (v : V n d) :
    Calls Tryd.prog 35 #[.agg #[.int .i64 n, .int .i64 d]] w fun e w' => e = .returned (.string ⟨(textL n d).toArray⟩) ∧ Below w.heap.size w w' := by
  obtain ⟨d1, d2, n1, n2, -⟩ := v
  have hs1 := fun W => refSize_p n _ W n1 n2 rfl
  have hs2 := fun W => refSize_p d _ W (by omega) d2 rfl
  have h1 : ∀ W, _ := fun W => decimal_any n.natAbs W (by omega)
  have h2 : ∀ W, _ := fun W => decimal_any d.natAbs W (by omega)
  rw [show ((n.natAbs : Nat) : Int) = ab n from rfl] at h1
  rw [show ((d.natAbs : Nat) : Int) = ab d from rfl] at h2
  have e : textL n d = (if n < 0 then 45 :: Lib.decDigits n.natAbs else Lib.decDigits n.natAbs) ++ (if d = 1 then [] else 47 :: Lib.decDigits d.natAbs) := by
    unfold textL Lib.itoa
    rw [if_neg (show ¬ d < 0 by omega), show d.toNat = d.natAbs by omega]
    by_cases hn : n < 0
    · by_cases hd : d = 1 <;> simp [hd, hn]
    · have hq : n.toNat = n.natAbs := by omega
      by_cases hd : d = 1 <;> simp [hd, hn, hq]
  have z1 : (ByteArray.mk (Lib.decDigits n.natAbs).toArray).size ≤ 30 := by
    rw [b_size, show (ByteArray.mk (Lib.decDigits n.natAbs).toArray).data.toList = Lib.decDigits n.natAbs by simp, Lib.decDigits_length]
    have := nDigits_le 19 n.natAbs (by omega); omega
  have z2 : (ByteArray.mk (Lib.decDigits d.natAbs).toArray).size ≤ 30 := by
    rw [b_size, show (ByteArray.mk (Lib.decDigits d.natAbs).toArray).data.toList = Lib.decDigits d.natAbs by simp, Lib.decDigits_length]
    have := nDigits_le 19 d.natAbs (by omega); omega
  have e1 : (ByteArray.mk (Lib.decDigits n.natAbs).toArray).data.toList = Lib.decDigits n.natAbs := by simp
  have e2 : (ByteArray.mk (Lib.decDigits d.natAbs).toArray).data.toList = Lib.decDigits d.natAbs := by simp
  rw [e]
  rw [← e1, ← e2]
  clear e e1 e2
  generalize (ByteArray.mk (Lib.decDigits n.natAbs).toArray) = A at *
  generalize (ByteArray.mk (Lib.decDigits d.natAbs).toArray) = B at *
  generalize ab n = an at *
  generalize ab d = ad at *
  have E := env_one w n d
  have C := E.cells
  simp only [BC] at C
  have k1 : (ByteArray.mk #[45]).size = 1 := rfl
  have k2 : (ByteArray.mk #[47]).size = 1 := rfl
  have zz : (ByteArray.mk #[45] ++ A).size ≤ 31 := by rw [b_szapp]; omega
  have z3 : (ByteArray.mk #[45] ++ A ++ ByteArray.mk #[47]).size ≤ 32 := by rw [b_szapp]; omega
  have z4 : (A ++ ByteArray.mk #[47]).size ≤ 32 := by rw [b_szapp]; omega
  clear k1 k2
  by_cases hn : n < 0 <;> by_cases hd : d = 1
  all_goals (first | (have g1 : decide (n < 0) = true := by simp [hn]) | (have g1 : decide (n < 0) = false := by simp [hn]))
  all_goals (first | (have g2 : (d == 1) = true := by simp [hd]) | (have g2 : (d == 1) = false := by simp [hd]))
  all_goals simp only [hn, hd, if_true, if_false]
  all_goals (try subst hd)
  all_goals go_enter Tryd.func35, Tryd.ntmps35
  all_goals go_wp2_with (first | (go_at_call 44; first | ((with_reducible refine (hs1 _).mono ?_); rintro e w1 ⟨rfl, rfl⟩) | ((with_reducible refine (hs2 _).mono ?_); rintro e w1 ⟨rfl, rfl⟩)) | (go_at_call 59; first | ((with_reducible refine (h1 _).mono ?_); rintro e w1 ⟨rfl, hb⟩; replace E := E.on hb; clear C; have C := E.cells; simp only [BC] at C; clear hb) | ((with_reducible refine (h2 _).mono ?_); rintro e w1 ⟨rfl, hb⟩; replace E := E.on hb; clear C; have C := E.cells; simp only [BC] at C; clear hb)))
  all_goals go_ret
  all_goals refine ⟨congrArg (fun s => Ending.returned (.string s)) (b_eq ?_), E.1⟩
  all_goals simp [b_app]
end Go.Proofs.YtbbbmlnggehcdaaDoor
