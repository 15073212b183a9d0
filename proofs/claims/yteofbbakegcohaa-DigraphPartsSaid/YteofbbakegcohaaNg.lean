/- newGraph: for each node the nodes that its edges lead to, ascending. -/
import Derived.Test.YteofbbakegcohaaSrt
import Derived.Deep.RegionLaw
namespace Go.Proofs.Yteofbbakegcohaa
open Go.ChangeShapes Go.WideShapes Go.ChangeAt Go.RowKit
set_option linter.unusedVariables false
set_option linter.unusedSimpArgs false


def nbl (l : List (Nat × Nat)) (v : Nat) : List Nat := (l.filter fun e => e.1 == v).map fun e => e.2
def adj (l : List (Nat × Nat)) (v : Nat) : List Nat := srt (nbl l v)
theorem nbl_len (l : List (Nat × Nat)) (v : Nat) : (nbl l v).length ≤ l.length := by
  unfold nbl; rw [List.length_map]; exact List.length_filter_le _ _
theorem nbl_next {l : List (Nat × Nat)} {k : Nat} (hk : k < l.length) (v : Nat) : ad1 (nbl (l.take k)) l[k].1 l[k].2 v = nbl (l.take (k + 1)) v := by
  unfold nbl ad1 upd
  rw [List.take_succ_eq_append_getElem hk, List.filter_append, List.map_append]
  by_cases h : v = l[k].1
  · simp [← h]
  · simp [h, Ne.symm h]
theorem mem_nbl (l : List (Nat × Nat)) (v u : Nat) : u ∈ nbl l v ↔ (v, u) ∈ l := by
  unfold nbl
  rw [List.mem_map]
  constructor
  · rintro ⟨e, he, rfl⟩
    rw [List.mem_filter] at he
    have := he.2
    simp at this
    rw [← this]; exact he.1
  · intro h
    exact ⟨(v, u), by rw [List.mem_filter]; exact ⟨h, by simp⟩, rfl⟩
theorem mem_adj (l : List (Nat × Nat)) (v u : Nat) : u ∈ adj l v ↔ (v, u) ∈ l := by unfold adj; rw [srt_mem, mem_nbl]
theorem adj_len (l : List (Nat × Nat)) (v : Nat) : (adj l v).length ≤ l.length := by unfold adj; rw [srt_len]; exact nbl_len l v
/-- The first k lists sorted. -/
def sk (F : Nat → List Nat) (k v : Nat) : List Nat := if v < k then srt (F v) else F v
theorem sk_next (n : Nat) (F : Nat → List Nat) (k : Nat) : ((List.range n).map (sk F k)).set k (srt (F k)) = (List.range n).map (sk F (k + 1)) := by
  rw [set_map]
  refine List.map_congr_left fun v _ => ?_
  unfold upd sk
  by_cases h : v = k
  · subst h; simp
  · by_cases h2 : v < k
    · simp [h, h2, show v < k + 1 by omega]
    · simp [h, h2, show ¬ v < k + 1 by omega]

set_option maxRecDepth 100000 in
set_option maxHeartbeats 4000000 in
theorem graph_any (p : Option Addr) (n : Nat) (l : List (Nat × Nat)) (cap : Nat) (w : World) (hG : Gr w p n l) :
    Calls Try.prog 42 #[.int .i64 n, .slice p l.length cap] w fun e w' => e = .returned (.slice (some ⟨w.heap.size, 0, none⟩) n n) ∧ Nest w.heap.size w' (.slice (some ⟨w.heap.size, 0, none⟩) n n) ((List.range n).map (adj l)) ∧ Below w.heap.size w w' := by
  have hm := hG.2.1
  have hn := hG.2.2.1
  obtain ⟨i0, hi, hz0, hz1, hz2⟩ := info_parts info3
  obtain ⟨j0, hj, hy0, hy1, hy2⟩ := info_parts info23
  go_enter Try.func42, Try.ntmps42
  go_wp2_with (at_make; refine wpList_make_full _ rfl _ _ 66 rfl w.heap.size 23 j0 _ 1 Try.underlying66 hj hy0 hy1 _ _ _ _ n rfl rfl rfl rfl (by rw [hy2]; omega) (by unfold maxLen; omega) (Nat.le_refl _) ?_)
  intro w1 hown hgrow
  have hN := nest_made hown
  have hB := below_grown (Below.refl _ w) hgrow (Nat.le_refl _)
  clear hown hgrow
  go_wp2
  go_loopw [14] (fun v wr => ∃ k : Nat, v = .int .i64 k ∧ k ≤ l.length ∧ Hid (Nest w.heap.size wr (.slice (some ⟨w.heap.size, 0, none⟩) n n) ((List.range n).map (nbl (l.take k)))) ∧ Below w.heap.size w wr) (fun v _ => l.length - (intOf v).toNat)
  case atStart => exact ⟨0, rfl, Nat.zero_le _, Lib.hid hN, hB⟩
  case round =>
    clear hN hB
    obtain ⟨k, rfl, hk, hN, hB⟩ := hrel
    by_cases hlt : k < l.length
    · have g1 : decide ((k : Int) < (l.length : Int)) = true := by simp [hlt]
      have W1 : IntKind.i64.wrap ((k : Int) + 1) = ((k + 1 : Nat) : Int) := by rw [IntWalk.i64_in _ (by omega)]; omega
      obtain ⟨a, rfl, d0, d1, l1, l2⟩ := (hG.on hB).at hlt
      have HA := Lib.hid (nbl_next hlt)
      have hFl : ∀ v, (nbl (l.take k) v).length ≤ 1000 := fun v => Nat.le_trans (nbl_len _ _) (by rw [List.length_take]; omega)
      obtain ⟨x, hxx⟩ : ∃ x, x = l[k].1 := ⟨_, rfl⟩
      obtain ⟨y, hyy⟩ : ∃ y, y = l[k].2 := ⟨_, rfl⟩
      rw [← hxx] at d0 l1 HA
      rw [← hyy] at d1 l2 HA
      clear hxx hyy
      generalize nbl (l.take k) = F at *
      have HLT := Lib.hid hlt
      have q1 : (0 : Int) ≤ (k : Int) := by omega
      have q2 : (k : Int) < (l.length : Int) := by omega
      obtain ⟨vs, u, o, I, hu, ho, hc, hf, hne, hGs, hBG⟩ := hN.out.factsF l1
      have fl : (F x).length ≤ 1000 := hFl x
      have q3 : (0 : Int) ≤ (x : Int) := by omega
      have q4 : (x : Int) < (n : Int) := by omega
      have bp := al1 wr (.cells #[.int .i64 (x : Int), .int .i64 (y : Int)] 42)
      have HO := Lib.hid (own_on ho bp)
      have HI := Lib.hid (I.on bp)
      have Ho := Lib.hid (own_on o bp)
      have Hu := Lib.hid hu
      have hc := cell_later bp hc
      have hf : (wr.alloc (.cells #[.int .i64 (x : Int), .int .i64 (y : Int)] 42)).frozen? ⟨w.heap.size, x, none⟩ = false := (bp.frozen hGs).trans hf
      have C := Has.new_ wr 42 #[.int .i64 (x : Int), .int .i64 (y : Int)]
      have C0 := C.read 0
      have C1 := C.read 1
      have hB2 := hB.trans (bp.mono hB.size)
      have hps : wr.heap.size < (wr.alloc (.cells #[.int .i64 (x : Int), .int .i64 (y : Int)] 42)).heap.size := by simp
      have nfx : w.heap.size ≠ wr.heap.size := by omega
      have Cf0 := C.open_ 0
      have Cf1 := C.open_ 1
      have nur : some wr.heap.size ≠ u.ownBlock := fun e => by have := (World.ownsRow.lt ho _ e.symm).2; omega
      have HH := Lib.hid hf
      have HCC := Lib.hid hc
      have HC0 := Lib.hid (And.intro C0 (And.intro C1 (And.intro Cf0 Cf1)))
      clear ho I o hu C C0 C1 Cf0 Cf1 hc hf
      go_wp2_with fail
      clear d0 d1
      have hc := HCC.out
      have hf := HH.out
      obtain ⟨C0, C1, Cf0, Cf1⟩ := HC0.out
      clear HCC HH HC0
      generalize hW : wr.alloc (.cells #[.int .i64 (x : Int), .int .i64 (y : Int)] 42) = wp at *
      have HW := Lib.hid hW
      clear hW
      have gps : w.heap.size < wp.heap.size := by omega
      go_region_law ((refine step_append_lies _ rfl _ _ _ rfl w.heap.size 3 i0 _ 1 8 Try.underlying23 hi hz0 hz1 hz2 rfl (by omega) u (F x).length (ints (F x)) (by simp [Act.eval, Act.put]) (own_on HO.out (Below.drew (al1 wp (.cells #[.int .i64 (y : Int)] 3)))) ⟨wp.heap.size, 0, none⟩ 1 1 [.int .i64 (y : Int)] (by simp [Act.eval, Act.put]) rfl (World.news_of_block (cs := #[.int .i64 (y : Int)]) (t := 3) (fr := (0, 0)) (heap_alloc_new wp _)) (by simp [Value.oneCell']) (by omega) (by unfold maxLen; omega) (by omega) (by simp; omega) (wp.heap.size + 1) (by simp) ?_); intro gg cap2 w2 hown1 hgrow hat hlt; have FF : w2.frozen? ⟨w.heap.size, x, none⟩ = false := (hgrow.frozen_far ⟨w.heap.size, x, none⟩ (by simp; omega) hne).trans (((al1 wp _).frozen gps).trans hf); have CC : w2.cell? ⟨w.heap.size, x, none⟩ = some u := (hgrow.cell_far ⟨w.heap.size, x, none⟩ (by simp; omega) hne).trans (((al1 wp _).cell gps).trans hc); have CX : w2.cell? ⟨wr.heap.size, 0, none⟩ = some (.int .i64 (x : Int)) := (hgrow.cell_far ⟨wr.heap.size, 0, none⟩ (by simp; omega) nur).trans (((al1 wp _).cell hps).trans C0))
      all_goals (
        clear FF CC CX hc hf C0 C1 Cf0 Cf1
        have ob : Below wp.heap.size wp (wp.alloc (.cells #[.int .i64 (y : Int)] 3)).drew := Below.drew (al1 wp (.cells #[.int .i64 (y : Int)] 3))
        have N2 := Lib.hid (Nest.growF l1 (own_on Ho.out ob) (HI.out.on ob) Hu.out hown1 hgrow (by rcases hat with e | rfl; (focus exact .inl e.symm); exact .inr (by simp [Value.ownBlock])))
        rw [show (List.range n).map (ad1 F x y) = (List.range n).map (nbl (l.take (k + 1))) from List.map_congr_left fun v _ => HA.out v] at N2
        have B2 : ∀ uz, Below w.heap.size w (w2.setCell ⟨w.heap.size, x, none⟩ uz) := fun uz => (((hB2.trans (ob.mono (by omega)))).grown hgrow (by have := ob.size; omega) (fun j hj => (World.ownsRow.lt HO.out _ hj).1)).setCell (Nat.le_refl _) _
        have hlt := HLT.out
        clear hown1 hgrow hat
        go_wp2
        exact ⟨⟨k + 1, rfl, hlt, N2, B2 _⟩, by simp [intOf]; omega⟩)
    · have g1 : decide ((k : Int) < (l.length : Int)) = false := by simp; omega
      have hN2 : Hid (Nest w.heap.size wr (.slice (some ⟨w.heap.size, 0, none⟩) n n) ((List.range n).map (sk (nbl l) 0))) := Lib.hid (by
        have := hN.out
        rw [List.take_of_length_le (by omega)] at this
        rw [show (List.range n).map (sk (nbl l) 0) = (List.range n).map (nbl l) from List.map_congr_left fun v _ => by unfold sk; rw [if_neg (Nat.not_lt_zero v)]]
        exact this)
      clear hN
      go_wp2
      go_loopw [34] (fun v wr => ∃ k : Nat, v = .int .i64 k ∧ k ≤ n ∧ Hid (Nest w.heap.size wr (.slice (some ⟨w.heap.size, 0, none⟩) n n) ((List.range n).map (sk (nbl l) k))) ∧ Below w.heap.size w wr) (fun v _ => n - (intOf v).toNat)
      case atStart => exact ⟨0, rfl, Nat.zero_le _, hN2, hB⟩
      case round =>
        clear hN2 hB
        obtain ⟨k, rfl, hk, hN, hB⟩ := hrel
        by_cases hlt : k < n
        · have g1 : decide ((k : Int) < (n : Int)) = true := by simp [hlt]
          have W1 : IntKind.i64.wrap ((k : Int) + 1) = ((k + 1 : Nat) : Int) := by rw [IntWalk.i64_in _ (by omega)]; omega
          have q1 : (0 : Int) ≤ (k : Int) := by omega
          have q2 : (k : Int) < (n : Int) := by omega
          obtain ⟨vs, u, o, I, hu, ho, hc, hf, hne, hGs, hBG⟩ := hN.out.factsF hlt
          have hs0 : sk (nbl l) k k = nbl l k := by unfold sk; rw [if_neg (Nat.lt_irrefl k)]
          rw [hs0] at ho
          have hc2 := sort_g w.heap.size u (nbl l k) wr ho (Nat.le_trans (nbl_len l k) (by omega))
          have HI := Lib.hid I
          have Ho := Lib.hid o
          have Hu := Lib.hid hu
          have HO := Lib.hid ho
          clear hs0 hN ho o I hu
          go_wp2_with (go_at_call 61; (with_reducible refine hc2.mono ?_); rintro e w2 ⟨rfl, h1, h2⟩)
          have T := Nest.turn (v := .slice (some ⟨w.heap.size, 0, none⟩) n n) (ls := (List.range n).map (sk (nbl l) k)) (ys := srt (nbl l k)) (by rw [List.length_map, List.length_range]; exact Ho.out) HI.out Hu.out (by simpa using hlt) h1 h2
          rw [sk_next] at T
          have N2 : Hid (Nest w.heap.size w2 (.slice (some ⟨w.heap.size, 0, none⟩) n n) ((List.range n).map (sk (nbl l) (k + 1)))) := Lib.hid ⟨vs, T.1, T.2⟩
          exact ⟨⟨k + 1, rfl, hlt, N2, hB.grown h2 hB.size (fun j hj => (World.ownsRow.lt HO.out _ hj).1)⟩, by simp [intOf]; omega⟩
        · have g1 : decide ((k : Int) < (n : Int)) = false := by simp; omega
          have hN2 := hN.out
          rw [show (List.range n).map (sk (nbl l) k) = (List.range n).map (adj l) from List.map_congr_left fun v hv => by unfold sk adj; rw [if_pos (by have := List.mem_range.1 hv; omega)]] at hN2
          have HN := Lib.hid hN2
          clear hN hN2
          go_wp2
          go_ret
          exact ⟨rfl, HN.out, hB⟩
end Go.Proofs.Yteofbbakegcohaa
