/- slices.SortFunc of the parts. -/
import Derived.Test.YteofbbakegcohaaShg
import Derived.Test.YteofbbakegcohaaLw
namespace Go.Proofs.Yteofbbakegcohaa
open Go.ChangeShapes Go.WideShapes Go.ChangeAt Go.RowKit
set_option linter.unusedVariables false
set_option linter.unusedSimpArgs false


def hd (xs : List Nat) : Nat := xs.headD 0
set_option maxRecDepth 100000 in
theorem clo69 (p q : Option Addr) (m1 m2 c1 c2 : Nat) (a b : Addr) (x y : Nat) (w : World) (hm1 : 0 < m1) (hm2 : 0 < m2) (hp : p = some a) (hq : q = some b) (h1 : w.cell? a = some (.int .i64 (x : Int))) (h2 : w.cell? b = some (.int .i64 (y : Int))) :
    Calls Try.prog 69 #[.slice p m1 c1, .slice q m2 c2] w fun e w' => e = .returned (.int .i64 (cmpZ x y)) ∧ ∃ m, w' = w.drewN m := by
  subst hp hq
  have hc := fun W => compare_s (x : Int) (y : Int) W
  have k1 : w.cell? (a.add 0) = some (.int .i64 (x : Int)) := h1
  have k2 : w.cell? (b.add 0) = some (.int .i64 (y : Int)) := h2
  have q1 : (0 : Int) < (m1 : Int) := by omega
  have q2 : (0 : Int) < (m2 : Int) := by omega
  go_enter Try.func69, Try.ntmps69
  go_wp2_with fail
  go_quiet (exact Calls.quiet_of_same (hc _))
  go_wp2
  go_ret
  exact ⟨rfl, _, rfl⟩
/-- A list of the parts' row. -/
abbrev El (B G : Nat) (w : World) : Type := { p : Value × List Nat // p.2 ≠ [] ∧ Own B w p.1 p.2 ∧ p.1.ownBlock ≠ some G }
def Elv {B G : Nat} {w : World} (p : El B G w) : Value := p.1.1
def Elc {B G : Nat} {w : World} (p q : El B G w) : Int := cmpZ (hd p.1.2) (hd q.1.2)
theorem swo_El (B G : Nat) (w : World) : Go.Sort.SWO (Go.Proofs.ltOf (Elc (B := B) (G := G) (w := w))) where
  irrefl x := by unfold Go.Proofs.ltOf Elc; rw [cmp_lt]; simp
  trans x y z h1 h2 := by unfold Go.Proofs.ltOf Elc at *; rw [cmp_lt] at *; simp at *; omega
  ntrans x y z h1 h2 := by unfold Go.Proofs.ltOf Elc at *; rw [cmp_lt] at *; simp at *; omega
theorem own_head {B : Nat} {w : World} {v : Value} {xs : List Nat} (h : Own B w v xs) (hx : xs ≠ []) : ∃ g c, v = .slice (some ⟨g, 0, none⟩) xs.length c ∧ w.cell? ⟨g, 0, none⟩ = some (.int .i64 (hd xs : Nat)) ∧ v.ownBlock = some g ∧ g < w.heap.size ∧ B ≤ g ∧ 0 < xs.length := by
  have hpos : 0 < xs.length := List.length_pos_iff.2 hx
  obtain ⟨g, c, rfl, h1, h2⟩ := World.ownsRow.form h hpos
  refine ⟨g, c, rfl, ?_, rfl, h2, h1, hpos⟩
  rw [Own.cell h rfl hpos]
  cases xs with
  | nil => exact absurd rfl hx
  | cons a t => rfl
theorem get_bang {α : Type} [Inhabited α] (xs : List α) (j : Nat) (h : j < xs.length) : xs.toArray[j]! = xs[j] := by
  simp [getElem!_def, h]
set_option maxHeartbeats 1000000 in
theorem psort_any (B : Nat) (v : Value) (ls : List (List Nat)) (w : World) (h : Nest B w v ls) (h0 : ls ≠ []) (hne : ∀ x ∈ ls, x ≠ []) (hl : ls.length ≤ 1000) :
    Calls Try.prog 68 #[v, .func (.func 69) #[] #[]] w fun e w' => ∃ ls', e = .returned (.tuple #[]) ∧ Nest B w' v ls' ∧ ls'.Perm ls ∧ ls'.Pairwise (fun a b => hd a ≤ hd b) ∧ w.grownBy w' v.ownBlock := by
  obtain ⟨vs, o, I⟩ := h
  have hpos : 0 < ls.length := List.length_pos_iff.2 h0
  have ofull := o
  obtain ⟨hlen, ⟨-, h1⟩ | ⟨G, cap, cur, rfl, hBg, hg, hn, hcap, hsz, ht⟩⟩ := o
  · omega
  have hI : ∀ p ∈ vs.zip ls, p.2 ≠ [] ∧ Own B w p.1 p.2 ∧ p.1.ownBlock ≠ some G := fun p hp => by
    obtain ⟨i, hi, e⟩ := List.getElem_of_mem hp
    rw [List.length_zip] at hi
    rw [List.getElem_zip] at e
    subst e
    have hi1 : i < vs.length := by omega
    have hi2 : i < ls.length := by omega
    exact ⟨hne _ (List.getElem_mem hi2), I.own i _ _ (List.getElem?_eq_getElem hi1) (List.getElem?_eq_getElem hi2), fun e => I.out i _ G (List.getElem?_eq_getElem hi1) e rfl⟩
  let L : List (El B G w) := (vs.zip ls).pmap Subtype.mk hI
  have hL : L.length = ls.length := by rw [List.length_pmap, List.length_zip, I.len, Nat.min_self]
  have hLv : ∀ (i : Nat) (hi : i < L.length), (L[i]).1.1 = vs[i]'(by rw [I.len]; omega) ∧ (L[i]).1.2 = ls[i]'(by omega) := fun i hi => by
    constructor
    · show (((vs.zip ls).pmap Subtype.mk hI)[i]).1.1 = _
      rw [List.getElem_pmap]
      exact congrArg Prod.fst List.getElem_zip
    · show (((vs.zip ls).pmap Subtype.mk hI)[i]).1.2 = _
      rw [List.getElem_pmap]
      exact congrArg Prod.snd List.getElem_zip
  haveI : Inhabited (El B G w) := ⟨L[0]'(by omega)⟩
  have hmap1 : L.map (fun p => p.1.1) = vs := by
    apply List.ext_getElem
    · rw [List.length_map, hL, I.len]
    · intro i a b; rw [List.getElem_map]; exact (hLv i (by simpa using a)).1
  have hmap2 : L.map (fun p => p.1.2) = ls := by
    apply List.ext_getElem
    · rw [List.length_map, hL]
    · intro i a b; rw [List.getElem_map]; exact (hLv i (by simpa using a)).2
  have hsize : L.toArray.size = ls.length := by simp [hL]
  have eg : ∀ args w, (callFunc 69 args).run Try.prog w = .ok (.enter 69 args) w := enters_of Try.func69 (by kernel_rfl) rfl
  have hone : OneCell (Elv (B := B) (G := G) (w := w)) := fun p => by
    obtain ⟨g, c, e, -⟩ := own_head p.2.2.1 p.2.1
    show p.1.1.oneCell' = true
    rw [e]; rfl
  have hcmp : CmpLays1 Try.prog 69 #[] (Elv (B := B) (G := G) (w := w)) Elc G 0 L.toArray.size w := fun m os dk hd' x y => by
    obtain ⟨g1, c1, e1, k1, o1, s1, -, p1⟩ := own_head x.2.2.1 x.2.1
    obtain ⟨g2, c2, e2, k2, o2, s2, -, p2⟩ := own_head y.2.2.1 y.2.1
    have n1 : g1 ≠ G := fun e => x.2.2.2 (by rw [o1, e])
    have n2 : g2 ≠ G := fun e => y.2.2.2 (by rw [o2, e])
    have hb : ∀ g, g < w.heap.size → g ≠ G → (sortWorld (Elv (B := B) (G := G) (w := w)) w G 0 m dk os).heap[g]? = w.heap[g]? := fun g hg hne => by
      show (w.heap.modify G _ ++ os)[g]? = w.heap[g]?
      rw [Array.getElem?_append_left (by simpa using hg), Array.getElem?_modify, if_neg (Ne.symm hne)]
    have ex : Elv x = .slice (some ⟨g1, 0, none⟩) x.1.2.length c1 := e1
    have ey : Elv y = .slice (some ⟨g2, 0, none⟩) y.1.2.length c2 := e2
    rw [ex, ey]
    refine (clo69 (some ⟨g1, 0, none⟩) (some ⟨g2, 0, none⟩) x.1.2.length y.1.2.length c1 c2 ⟨g1, 0, none⟩ ⟨g2, 0, none⟩ (hd x.1.2) (hd y.1.2) _ p1 p2 rfl rfl ?_ ?_).mono ?_
    · rw [World.cell?_of_block (hb g1 s1 n1)]; exact k1
    · rw [World.cell?_of_block (hb g2 s2 n2)]; exact k2
    · rintro e w' ⟨rfl, q, rfl⟩
      exact ⟨rfl, q, #[], by rw [Go.Sort.grow_empty]⟩
  have hH : Go.Sort.Holds (Elv (B := B) (G := G) (w := w)) w G 0 L.toArray := fun j hj => by
    have hj' : j < L.length := by rw [List.size_toArray] at hj; exact hj
    rw [Nat.zero_add, get_bang L j hj']
    refine ⟨?_, Has.open_ hg j⟩
    have := World.ownsRow.cellAt ofull j (by have h2 := hj'; rw [hL] at h2; omega)
    rw [this, List.getElem?_eq_getElem (by rw [I.len]; omega)]
    exact congrArg some (hLv j hj').1.symm
  have hr := Try.slices_SortFunc (Elv (B := B) (G := G) (w := w)) hone Elc (swo_El B G w) 69 #[] G 0 cap L.toArray w eg hcmp hH (Has.size_ hg) (by rw [hsize]; omega)
  rw [hsize] at hr
  refine hr.mono ?_
  rintro e w' ⟨rfl, d', n, os, hperm, hsort, rfl⟩
  have hds : d'.size = ls.length := by rw [hperm.1, hsize]
  have hP : d'.toList.Perm L := by
    have := hperm.2.2
    rw [show d'.extract 0 ls.length = d' by rw [← hds]; simp, show L.toArray.extract 0 ls.length = L.toArray by rw [← hsize]; simp] at this
    simpa using this
  have hgr : w.grownBy (sortWorld (Elv (B := B) (G := G) (w := w)) w G 0 n d' os) (some G) := by
    refine ⟨rfl, rfl, rfl, ?_, fun k hk hne => ?_⟩
    · show w.heap.size ≤ (w.heap.modify G _ ++ os).size
      rw [Array.size_append]; simp
    · show (w.heap.modify G _ ++ os)[k]? = w.heap[k]?
      rw [Array.getElem?_append_left (by simpa using hk), Array.getElem?_modify, if_neg (fun e => hne (by rw [e]))]
  have hp1 : (d'.toList.map (fun p => p.1.1)).Perm vs := by rw [← hmap1]; exact hP.map _
  have hp2 : (d'.toList.map (fun p => p.1.2)).Perm ls := by rw [← hmap2]; exact hP.map _
  refine ⟨d'.toList.map (fun p => p.1.2), rfl, ?_, hp2, ?_, hgr⟩
  · have el : (d'.toList.map (fun p : El B G w => p.1.2)).length = ls.length := hp2.length_eq
    have dis : vs.Pairwise (fun a b => ∀ q, a.ownBlock = some q → b.ownBlock ≠ some q) := by
      rw [List.pairwise_iff_getElem]
      intro i j hi hj hij q e
      exact I.dis i j _ _ q (by omega) (List.getElem?_eq_getElem hi) (List.getElem?_eq_getElem hj) e
    have dis2 := (hp1.pairwise_iff (fun {a b} h q e k => h q k e)).2 dis
    rw [List.pairwise_iff_getElem] at dis2
    refine ⟨d'.toList.map (fun p => p.1.1), ?_, by simp, ?_, ?_, ?_⟩
    · rw [el]
      refine ⟨by rw [hp1.length_eq, I.len, Nat.mul_one], .inr ⟨G, cap, Go.Sort.putCells (Elv (B := B) (G := G) (w := w)) 0 d' cur, rfl, hBg, ?_, hn, hcap, by simp [Go.Sort.putCells, hsz], ?_⟩⟩
      · show (w.heap.modify G _ ++ os)[G]? = _
        have := Has.size_ hg
        rw [Array.getElem?_append_left (by simpa using this), Array.getElem?_modify, if_pos rfl, hg]
        rfl
      · have hc : cur.size = cap := by simpa using hsz
        apply List.ext_getElem
        · simp [Go.Sort.putCells]; omega
        · intro i a b
          have hi : i < d'.size := by simpa using b
          simp only [Go.Sort.putCells, List.getElem_take, Array.getElem_toList, Array.getElem_mapIdx, List.getElem_map]
          rw [if_pos (by omega)]
          simp [Elv, hi]
    · intro i u xs h1 h2
      rw [List.getElem?_map] at h1 h2
      cases hx : d'.toList[i]? with
      | none => rw [hx] at h1; cases h1
      | some p =>
        rw [hx] at h1 h2
        simp only [Option.map_some, Option.some.injEq] at h1 h2
        subst h1 h2
        exact World.ownsRow.kept p.2.2.1 hgr (.inr p.2.2.2)
    · intro i j u u' q hij h1 h2 e
      obtain ⟨hi, e1⟩ := List.getElem?_eq_some_iff.1 h1
      obtain ⟨hj, e2⟩ := List.getElem?_eq_some_iff.1 h2
      rcases Nat.lt_or_gt_of_ne hij with k | k
      · exact fun k2 => dis2 i j hi hj k q (by rw [e1]; exact e) (by rw [e2]; exact k2)
      · exact fun k2 => dis2 j i hj hi k q (by rw [e2]; exact k2) (by rw [e1]; exact e)
    · intro i u q h1 e k
      have hm := List.mem_of_getElem? h1
      obtain ⟨p, -, rfl⟩ := List.mem_map.1 hm
      simp only [Value.ownBlock, Option.some.injEq] at k
      exact p.2.2.2 (by rw [e, ← k])
  · rw [List.pairwise_iff_getElem]
    intro i j hi hj hij
    have hi' : i < d'.size := by simpa using hi
    have hj' : j < d'.size := by simpa using hj
    have := hsort i j (Nat.zero_le _) hij (by rw [← hds]; exact hj')
    unfold Go.Proofs.ltOf Elc at this
    rw [cmp_lt] at this
    have k := of_decide_eq_false this
    simp only [List.getElem_map, Array.getElem_toList]
    rw [getElem!_pos d' j hj', getElem!_pos d' i hi'] at k
    omega
end Go.Proofs.Yteofbbakegcohaa
