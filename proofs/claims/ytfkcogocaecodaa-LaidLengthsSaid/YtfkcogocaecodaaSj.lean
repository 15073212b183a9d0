/- Single runs: what the walk needs. -/
import Derived.Test.YtfkcogocaecodaaSi
import Derived.Deep.CutBlock
namespace Go.Proofs.Ytfkcogocaecodaa
open Go.ChangeShapes Go.WideShapes Go.ChangeAt Go.RowKit
set_option linter.unusedVariables false
set_option linter.unusedSimpArgs false

theorem plus_24 (a b c x y z A B C : Int) (hx : IntKind.i64.wrap (a + x) = A) (hy : IntKind.i64.wrap (b + y) = B) (hz : IntKind.i64.wrap (c + z) = C) (w : World) : Calls Try.prog 24 #[.agg #[.int .i64 a, .int .i64 b, .int .i64 c], .agg #[.int .i64 x, .int .i64 y, .int .i64 z]] w fun e w' => e = .returned (.agg #[.int .i64 A, .int .i64 B, .int .i64 C]) ∧ Below w.heap.size w w' := by
  go_enter Try.func24, Try.ntmps24
  go_wp2
  exact bodyPost_ret (v := .agg #[.int .i64 A, .int .i64 B, .int .i64 C]) (by simp [results, Try.results24, go_sem]) rfl ⟨rfl, al (al (al1 w _) _) _⟩
theorem sng_bd {b : Bar} {r : Rn} (hf : fitsB b r = true) {j : Nat} (hj : (j : Int) < r.ct) : (adp r.at_ (scp r.st j)).ok := by
  obtain ⟨-, hc, hs, hn⟩ := fitsB_and hf
  have hn' : inB 1048576 r.at_ = true := hn
  have ha := inB_bd.1 hn'
  rcases hs with h1 | h1
  · obtain rfl : j = 0 := by omega
    unfold Pt.bd at ha
    unfold adp scp Pt.ok I64
    dsimp only
    omega
  · have h2 := bd_scl (M := 1000) h1 (n := (j : Int)) (by omega) (by omega)
    exact bd_ok (bd_add ha h2) (by decide)
theorem wrap_next {a s x : Int} {j : Nat} (hx : x = a + s * (j : Int)) (h : I64 (a + s * ((j + 1 : Nat) : Int))) : IntKind.i64.wrap (x + s) = a + s * ((j + 1 : Nat) : Int) := by
  have e : x + s = a + s * ((j + 1 : Nat) : Int) := by rw [hx, Int.natCast_add, Int.mul_add]; simp; omega
  rw [e]; exact i64w h
theorem totR_sing (rs : List Rn) : totR (sing rs) = ((sing rs).length : Nat) := by
  have h : ∀ l : List Rn, (∀ r ∈ l, r.ct = 1) → totR l = (l.length : Nat) := by
    intro l
    induction l with
    | nil => intro _; rfl
    | cons x r ih =>
      intro h
      have e : totR (x :: r) = x.ct + totR r := by simp [totR]
      rw [e, ih fun y hy => h y (by simp [hy]), h x (by simp)]; simp; omega
  exact h _ fun r hr => sing_ct hr
theorem sing_ok {l : List Bar} {rs : List Rn} (hk : ∀ r ∈ rs, r.Ok) (hf : ∀ r ∈ rs, fitsM l r = true) : ∀ r ∈ sing rs, r.Ok := by
  intro r hr
  unfold sing at hr
  obtain ⟨x, hx, hr⟩ := List.mem_flatMap.1 hr
  unfold sngs at hr
  obtain ⟨k, hk2, rfl⟩ := List.mem_map.1 hr
  obtain ⟨b, -, hb⟩ := fitsM_bar (hf x hx)
  have h := hk x hx
  have hk3 := List.mem_range.1 hk2
  exact ⟨h.nm, by unfold sngR I64; dsimp only; omega, sng_bd hb (by omega), by unfold sngR Pt.ok I64; dsimp only; omega, h.tx, h.ty⟩
theorem layAt_sing (l : List Bar) (rs : List Rn) (i : Int) : layAt l (sing rs) i = layAt l rs i := by
  unfold layAt; rw [lay_sing]
theorem legsC_sing {l : List Bar} {rs : List Rn} (h1 : validR l rs = true) (h2 : validR l (sing rs) = true) (i : Int) : legsC l (sing rs) i = legsC l rs i := by
  unfold legsC; rw [h1, h2, layAt_sing]
theorem markC_sing {l : List Bar} {rs : List Rn} (h1 : validR l rs = true) (h2 : validR l (sing rs) = true) (i : Int) : markC l (sing rs) i = markC l rs i := by
  unfold markC; rw [h1, h2, layAt_sing]
theorem legsC_at {l : List Bar} {rs : List Rn} (hv : validR l rs = true) {k : Nat} (hk : k < (lay l rs).length) : ∃ L, legsC l rs (k : Int) = (L, 0) ∧ L.length ≤ 100000 := by
  have hn : layAt l rs (k : Int) = some (lay l rs)[k] := by
    unfold layAt
    rw [if_pos (by omega : (0 : Int) ≤ (k : Int)), show ((k : Int)).toNat = k by omega, List.getElem?_eq_getElem hk]
  obtain ⟨-, h2, h7⟩ := lay_near hv (List.getElem_mem hk)
  refine ⟨lgsP (lay l rs)[k].2, ?_, by rw [lgsP_len]; omega⟩
  unfold legsC
  rw [hv, hn]; rfl
theorem sing_pre {l : List Bar} {rs : List Rn} (hf : ∀ r ∈ rs, fitsM l r = true) (h60 : rs.length ≤ 60) (k : Nat) : (sing (rs.take k)).length ≤ 60000 := by
  have hc : ∀ r ∈ rs.take k, 1 ≤ r.ct ∧ r.ct ≤ 1000 := fun r hr => fitsM_ct (hf r (List.mem_of_mem_take hr))
  have h1 := sing_len hc
  have h2 := (totR_bd hc).2
  have h3 : (rs.take k).length ≤ 60 := by simp; omega
  omega
theorem sngs_len (r : Rn) : (sngs r).length = r.ct.toNat := by simp [sngs]
theorem own_rdf {B : Nat} {w : World} {v : Value} {l : List Fg} (h : Own fc 71 2 B w v l) : Rd fc 2 w v l := Own.rd fcl h
theorem equalf_same (v v' : Value) (xs : List Fg) (w : World) (h1 : Rd fc 2 w v xs) (h2 : Rd fc 2 w v' xs) (hx : xs.length ≤ 100000) : Calls Try.prog 29 #[v, v'] w fun e w' => e = .returned (.bool true) ∧ Below w.heap.size w w' :=
  (equalf_29 v v' xs xs w h1 h2 hx).mono fun e w' h => ⟨h.1.trans (by rw [decide_eq_true rfl]), h.2⟩
end Go.Proofs.Ytfkcogocaecodaa
