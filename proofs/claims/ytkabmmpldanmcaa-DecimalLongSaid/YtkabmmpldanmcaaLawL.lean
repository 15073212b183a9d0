/- DecimalLong returns true: the walk. -/
import Derived.Test.YtkabmmpldanmcaaLawT
namespace Go.Proofs.Ytkabmmpldanmcaa
open Go.ChangeShapes Go.WideShapes Go.ChangeAt Go.RowKit
set_option linter.unusedVariables false

theorem repeatL_byte (b : UInt8) (c : Nat) : Lib.repeatL [b] c = List.replicate c b := by
  induction c with
  | zero => rfl
  | succ c ih => rw [Lib.repeatL, ih, List.replicate_succ]; rfl

theorem rep_is (s : ByteArray) (b : UInt8) (X : Int) (c : Nat) (z : ByteArray) (w : World) (hs : s = ⟨[b].toArray⟩) (hX : X = c) (hc : c ≤ 1000000) (hz : z = ⟨(List.replicate c b).toArray⟩) :
    Calls Try.prog 23 #[.string s, .int .i64 X] w fun e w' => e = .returned (.string z) ∧ Below w.heap.size w w' := by
  subst hX; subst hs
  have h := Try.strings_Repeat ⟨[b].toArray⟩ c w (by omega) (by show 1 * c ≤ _; omega)
  have e : (⟨[b].toArray⟩ : ByteArray).data.toList = [b] := rfl
  rw [e, repeatL_byte, ← hz] at h
  exact h

theorem toks_blank : ∀ (n f : Nat) (ln co : Nat), n ≤ f → toks f (List.replicate n 32) ln co = .good [⟨5, [], ln, co + n⟩]
  | 0, 0, ln, co, _ => rfl
  | 0, f + 1, ln, co, _ => rfl
  | n + 1, 0, ln, co, h => by omega
  | n + 1, f + 1, ln, co, h => by
    have e : firstL (List.replicate (n + 1) 32) = (0, 1) := by rw [List.replicate_succ]; rfl
    rw [List.replicate_succ] at e
    rw [List.replicate_succ, toks, e]
    rw [if_neg (by decide), if_pos rfl]
    show toks f (List.replicate n 32) ln (co + 1) = _
    rw [toks_blank n f ln (co + 1) (by omega)]
    congr 3; omega

theorem byte_str (w : World) (x : Int) (b : UInt8) (s : ByteArray) (hx : x = (b.toNat : Int)) (hs : s = ⟨[b].toArray⟩) :
    (convert 48 9 (.slice (some ⟨w.heap.size, 0, none⟩) 1 1)).run Try.prog (w.alloc (.cells #[.int .u8 x] 5)) = .ok (.string s) (w.alloc (.cells #[.int .u8 x] 5)) := by
  subst hs
  refine run_convert_bytes_back (P := Try.prog) (w.alloc (.cells #[.int .u8 x] 5)) 48 9 5 ⟨w.heap.size, 0, none⟩ 1 [b] Try.underlying48 Try.underlying5 Try.underlying9 ?_
  intro j hj
  have hj0 : j = 0 := by simpa using hj
  subst hj0
  have h := World.cell?_alloc_mark w #[.int .u8 x] 5 (0, 0) 0
  show (w.alloc (.cells #[.int .u8 x] 5)).cell? ⟨w.heap.size, 0, none⟩ = _
  rw [h, hx]
  rfl

theorem tok_one (s : ByteArray) (t : Tok) (w : World) (hs : s.size ≤ 262144) (h : T s.data.toList 1 1 = .good [t]) : Calls Try.prog 18 #[.string s] w fun e w' => ∃ g cap : Nat, e = .returned (.tuple #[.slice (some ⟨g, 0, none⟩) 1 cap, .agg #[.int .i64 0, .int .i64 0], .int .i64 0]) ∧ Below w.heap.size w w' :=
  (tok_good s [t] w hs h).mono fun e w' ⟨g, cap, he, hb, _⟩ => ⟨g, cap, he, hb⟩
def OneRet (w : World) (e : Ending) (w' : World) : Prop := ∃ g cap : Nat, e = .returned (.tuple #[.slice (some ⟨g, 0, none⟩) 1 cap, .agg #[.int .i64 0, .int .i64 0], .int .i64 0]) ∧ Below w.heap.size w w'

theorem byte_of (c : Int) (h : 0 ≤ c ∧ c ≤ 255) : ∃ b : UInt8, c = (b.toNat : Int) := by
  refine ⟨UInt8.ofNat c.toNat, ?_⟩
  have e : (UInt8.ofNat c.toNat).toNat = c.toNat := by simp; omega
  rw [e]; omega

theorem long_walk (c m : Int) (w : World) (hc : (Lit.int .u8 c).wf = true) (hm : (Lit.int .u8 m).wf = true) :
    Calls Try.prog 7 #[.int .u8 c, .int .u8 m] w fun e w' => e = .returned (.bool true) ∧ Below w.heap.size w w' := by
  have bc := bounds_u8 hc
  have bm := bounds_u8 hm
  obtain ⟨b, hb⟩ : ∃ b : UInt8, c = (b.toNat : Int) := byte_of c bc
  obtain ⟨s1, hs1⟩ : ∃ s : ByteArray, s = ⟨[b].toArray⟩ := ⟨_, rfl⟩
  obtain ⟨n1, hn1⟩ : ∃ n : Nat, (n : Int) = 262145 + m := ⟨(262145 + m).toNat, by omega⟩
  obtain ⟨z1, hz1⟩ : ∃ z : ByteArray, z = ⟨(List.replicate n1 b).toArray⟩ := ⟨_, rfl⟩
  obtain ⟨n2, hn2⟩ : ∃ n : Nat, (n : Int) = 262144 := ⟨262144, rfl⟩
  obtain ⟨z2, hz2⟩ : ∃ z : ByteArray, z = ⟨(List.replicate n2 (32 : UInt8)).toArray⟩ := ⟨_, rfl⟩
  have q1 : z1.size = n1 := by rw [hz1]; simp [ByteArray.size]
  have q2 : z2.size = n2 := by rw [hz2]; simp [ByteArray.size]
  have hT : T z2.data.toList 1 1 = .good [⟨5, [], 1, 1 + n2⟩] := by
    have e : z2.data.toList = List.replicate n2 32 := by rw [hz2]
    rw [e]; unfold T; rw [List.length_replicate]; exact toks_blank n2 n2 1 1 (Nat.le_refl _)
  have u1 : 262144 < z1.size := by omega
  have u2 : z1.size ≤ 1000000 := by omega
  have u3 : z2.size ≤ 262144 := by omega
  have hcv := fun W : World => byte_str W c b s1 hb hs1
  have HS1 := Lib.hid hs1; have HN1 := Lib.hid hn1; have HZ1 := Lib.hid hz1; have HN2 := Lib.hid hn2; have HZ2 := Lib.hid hz2; have HT := Lib.hid hT
  have u4 : n1 ≤ 1000000 := by omega
  have u5 : n2 ≤ 1000000 := by omega
  have um : Hid (z1.size ≤ maxLen) := by show z1.size ≤ maxLen; unfold maxLen; omega
  clear hs1 hn1 hz1 hn2 hz2 hT q1 q2 hb
  go_enter Try.func7, Try.ntmps7
  go_wp2_with (first | (go_at_call 10; refine (awake_any _).mono ?_; rintro e w1 ⟨rfl, hb1⟩) | (go_at_call 23; fail))
  refine (rep_is s1 b _ n1 z1 _ HS1.out HN1.out.symm u4 HZ1.out).mono ?_
  rintro e w2 ⟨rfl, hb2⟩
  go_wp2_with fail
  refine (tokens_long z1 _ u1 um.out).mono ?_
  rintro e w3 ⟨rfl, hb3⟩
  go_wp2_with fail
  refine (rep_is _ 32 _ n2 z2 _ rfl HN2.out.symm u5 HZ2.out).mono ?_
  rintro e w4 ⟨rfl, hb4⟩
  have p0 : w4.cell? ⟨w3.heap.size, 0, none⟩ = some (.int .i64 0) := (hb4.cell (p := ⟨w3.heap.size, 0, none⟩) (by simp)).trans ((Has.new_ w3 38 _).read 0)
  have p1 : w4.cell? ⟨w3.heap.size, 1, none⟩ = some (.int .i64 0) := (hb4.cell (p := ⟨w3.heap.size, 1, none⟩) (by simp)).trans ((Has.new_ w3 38 _).read 1)
  have h34 := hb4.size
  have hlt : w3.heap.size < w4.heap.size := by simp at h34; omega
  clear h34
  go_wp2_with fail
  refine (tok_one z2 _ _ u3 HT.out).mono ?_
  rintro e w5 ⟨g, cap, rfl, hb5⟩
  have r0 : w5.cell? ⟨w3.heap.size, 0, none⟩ = some (.int .i64 0) := (hb5.cell (p := ⟨w3.heap.size, 0, none⟩) hlt).trans p0
  have r1 : w5.cell? ⟨w3.heap.size, 1, none⟩ = some (.int .i64 0) := (hb5.cell (p := ⟨w3.heap.size, 1, none⟩) hlt).trans p1
  have hlt2 : w3.heap.size < w5.heap.size := Nat.lt_of_lt_of_le hlt hb5.size
  clear p0 p1 hlt
  go_wp2
  go_ret
  exact ⟨rfl, (belows (alloc_below (belows (alloc_below hb1 _ hb2) hb3) _ hb4) hb5).alloc (belows (alloc_below (belows (alloc_below hb1 _ hb2) hb3) _ hb4) hb5).size _⟩
end Go.Proofs.Ytkabmmpldanmcaa
