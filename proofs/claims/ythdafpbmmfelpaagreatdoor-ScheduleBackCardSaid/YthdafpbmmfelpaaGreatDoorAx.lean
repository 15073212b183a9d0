/- awake: the walk. -/
import Derived.Test.YthdafpbmmfelpaaGreatDoorAw
namespace Go.Proofs.YthdafpbmmfelpaaGreatDoor
open Go.ChangeShapes Go.WideShapes Go.ChangeAt Go.RowKit
set_option linter.unusedVariables false
set_option linter.unusedSimpArgs false

theorem text_one (b : Bar) (W : World) (hk : b.Ok W) (hn : nrm b = lineB 4) (hT : Tab W) :
    Calls Tryz.prog 18 #[.slice (some ⟨W.heap.size, 0, none⟩) 1 1] (W.alloc (.cells #[.string b.mark, .int .i64 b.size, .int .i64 b.count, .int .i64 b.code, .slice b.p b.ds.length b.cap] 60)) fun e w' => e = .returned (.tuple #[.string ⟨#[97, 32, 49, 48, 32, 52, 32, 48, 48, 32, 49, 48, 48, 48, 10]⟩, .int .i64 0]) ∧ Below (W.alloc (.cells #[.string b.mark, .int .i64 b.size, .int .i64 b.count, .int .i64 b.code, .slice b.p b.ds.length b.cap] 60)).heap.size (W.alloc (.cells #[.string b.mark, .int .i64 b.size, .int .i64 b.count, .int .i64 b.code, .slice b.p b.ds.length b.cap] 60)) w' := by
  have B := al1 W (.cells #[.string b.mark, .int .i64 b.size, .int .i64 b.count, .int .i64 b.code, .slice b.p b.ds.length b.cap] 60)
  have h := Text_ok (some ⟨W.heap.size, 0, none⟩) [b] 1 (W.alloc (.cells #[.string b.mark, .int .i64 b.size, .int .i64 b.count, .int .i64 b.code, .slice b.p b.ds.length b.cap] 60)) (slb_one (Has.new_ W 60 b.cs) (hk.on B)) (line_valid hn (by omega)) (fun x hx => by rw [List.mem_singleton.1 hx, (line_mark hn).1]; decide) (hT.on B)
  rw [line_text hn] at h
  exact h
theorem pcs_one (b : Bar) (W : World) (hk : b.Ok W) (hn : nrm b = lineB 4) :
    Calls Tryz.prog 23 #[.slice (some ⟨W.heap.size, 0, none⟩) 1 1, .int .i64 10] (W.alloc (.cells #[.string b.mark, .int .i64 b.size, .int .i64 b.count, .int .i64 b.code, .slice b.p b.ds.length b.cap] 60)) fun e w' => ∃ v, e = .returned (.tuple #[v, .int .i64 0]) ∧ Rd sc 2 w' v [(1000, 4)] ∧ Below (W.alloc (.cells #[.string b.mark, .int .i64 b.size, .int .i64 b.count, .int .i64 b.code, .slice b.p b.ds.length b.cap] 60)).heap.size (W.alloc (.cells #[.string b.mark, .int .i64 b.size, .int .i64 b.count, .int .i64 b.code, .slice b.p b.ds.length b.cap] 60)) w' := by
  have B := al1 W (.cells #[.string b.mark, .int .i64 b.size, .int .i64 b.count, .int .i64 b.code, .slice b.p b.ds.length b.cap] 60)
  have h := Pieces_ok (some ⟨W.heap.size, 0, none⟩) [b] 1 10 (W.alloc (.cells #[.string b.mark, .int .i64 b.size, .int .i64 b.count, .int .i64 b.code, .slice b.p b.ds.length b.cap] 60)) (slb_one (Has.new_ W 60 b.cs) (hk.on B)) (line_valid hn (by omega)) (by decide)
  rw [line_pcs hn] at h
  exact h.mono fun e w' ⟨v, he, hO, hb⟩ => ⟨v, he, Own.rd sl hO, hb⟩
theorem mrg_one (b c : Bar) (g : Nat) (W : World) (hg : Has W g 60 b.cs) (hk : b.Ok W) (hn : nrm b = lineB 4) (hkc : c.Ok W) (hnc : nrm c = lineB 2) :
    Calls Tryz.prog 27 #[.slice (some ⟨g, 0, none⟩) 1 1, .slice (some ⟨W.heap.size, 0, none⟩) 1 1] (W.alloc (.cells #[.string c.mark, .int .i64 c.size, .int .i64 c.count, .int .i64 c.code, .slice c.p c.ds.length c.cap] 60)) fun e w' => ∃ v, e = .returned (.tuple #[v, .int .i64 0]) ∧
      (∃ p l k, v = .slice p l.length k ∧ Slb w' p l k ∧ l.map nrm = [lineB 6]) ∧ Below (W.alloc (.cells #[.string c.mark, .int .i64 c.size, .int .i64 c.count, .int .i64 c.code, .slice c.p c.ds.length c.cap] 60)).heap.size (W.alloc (.cells #[.string c.mark, .int .i64 c.size, .int .i64 c.count, .int .i64 c.code, .slice c.p c.ds.length c.cap] 60)) w' := by
  have B := al1 W (.cells #[.string c.mark, .int .i64 c.size, .int .i64 c.count, .int .i64 c.code, .slice c.p c.ds.length c.cap] 60)
  obtain ⟨m1, m2, m3⟩ := line_mrg hn hnc
  have h := Merge_ok (some ⟨g, 0, none⟩) (some ⟨W.heap.size, 0, none⟩) [b] [c] 1 1 (W.alloc (.cells #[.string c.mark, .int .i64 c.size, .int .i64 c.count, .int .i64 c.code, .slice c.p c.ds.length c.cap] 60)) (slb_one (hg.on B) (hk.on B)) (slb_one (Has.new_ W 60 c.cs) (hkc.on B)) (line_valid hn (by omega)) (line_valid hnc (by omega))
  rw [m2] at h
  refine h.mono fun e w' ⟨v, he, _, hs, hb⟩ => ⟨v, he, ?_, hb⟩
  obtain ⟨p, l, k, e1, e2, e3⟩ := hs _ m1 rfl
  exact ⟨p, l, k, e1, e2, by rw [e3]; simp [m3]⟩
theorem same_one (p : Option Addr) (l : List Bar) (k : Nat) (b : Bar) (W : World) (hS : Slb W p l k) (hl : l.map nrm = [lineB 6]) (hk : b.Ok W) (hn : nrm b = lineB 6) :
    Calls Tryz.prog 22 #[.slice p l.length k, .slice (some ⟨W.heap.size, 0, none⟩) 1 1] (W.alloc (.cells #[.string b.mark, .int .i64 b.size, .int .i64 b.count, .int .i64 b.code, .slice b.p b.ds.length b.cap] 60)) fun e w' => e = .returned (.bool true) ∧ Below (W.alloc (.cells #[.string b.mark, .int .i64 b.size, .int .i64 b.count, .int .i64 b.code, .slice b.p b.ds.length b.cap] 60)).heap.size (W.alloc (.cells #[.string b.mark, .int .i64 b.size, .int .i64 b.count, .int .i64 b.code, .slice b.p b.ds.length b.cap] 60)) w' := by
  have B := al1 W (.cells #[.string b.mark, .int .i64 b.size, .int .i64 b.count, .int .i64 b.code, .slice b.p b.ds.length b.cap] 60)
  have hd : ∀ x ∈ l, x.ds.length ≤ 1000 := fun x hx => by
    have h1 : nrm x ∈ l.map nrm := List.mem_map_of_mem hx
    rw [hl, List.mem_singleton] at h1
    have := (line_mark (c := 6) h1).2.2.2.2
    rw [this]; decide
  have h := rSame_list p (some ⟨W.heap.size, 0, none⟩) l [b] k 1 (W.alloc (.cells #[.string b.mark, .int .i64 b.size, .int .i64 b.count, .int .i64 b.code, .slice b.p b.ds.length b.cap] 60)) (hS.on B) (slb_one (Has.new_ W 60 b.cs) (hk.on B)) hd
  refine h.mono fun e w' ⟨R, he, hR, hb⟩ => ⟨?_, hb⟩
  rw [he, hR.2 (by rw [hl]; simp [hn])]
theorem eq_one (v : Value) (W : World) (h : Rd sc 2 W v [(1000, 4)]) :
    Calls Tryz.prog 25 #[v, .slice (some ⟨W.heap.size, 0, none⟩) 1 1] (W.alloc (.cells #[.int .i64 1000, .int .i64 4] 49)) fun e w' => e = .returned (.bool true) ∧ Below (W.alloc (.cells #[.int .i64 1000, .int .i64 4] 49)).heap.size (W.alloc (.cells #[.int .i64 1000, .int .i64 4] 49)) w' := by
  have B := al1 W (.cells #[.int .i64 1000, .int .i64 4] 49)
  have HN := Has.new_ W 49 #[.int .i64 1000, .int .i64 4]
  exact equalq_any v _ [(1000, 4)] [(1000, 4)] _ (h.on sl B) ⟨some ⟨W.heap.size, 0, none⟩, 1, rfl, fun k hk => ⟨_, rfl, fun j hj => by
    obtain rfl : k = 0 := by simp at hk; omega
    rw [HN.read]
    match j, hj with
    | 0, _ => rfl
    | 1, _ => rfl⟩⟩ (by decide)
set_option maxHeartbeats 8000000 in
set_option maxRecDepth 100000 in
theorem awake_any (w : World) (hT : Tab w) : Calls Tryz.prog 10 #[] w fun e w' => e = .returned (.bool true) ∧ Below w.heap.size w w' := by
  go_enter Tryz.func10, Tryz.ntmps10
  go_upto_region 2 with (first
    | (go_at_call 34; (with_reducible refine (line_any 4 _).mono ?_); rintro X w1 ⟨b, rfl, hk, hn, hb⟩; rw [vcs]; have h18 := text_one b w1 hk hn (hT.on hb))
    | (go_at_call 18; (with_reducible refine h18.mono ?_); rintro X w2 ⟨rfl, hb2⟩))
  have B2 := belows (al hb _) hb2
  clear h18 hb hb2 hk hn
  go_upto_region 3 with (first
    | (go_at_call 34; (with_reducible refine (line_any 4 _).mono ?_); rintro X w3 ⟨b, rfl, hk, hn, hb⟩; rw [vcs]; have h23 := pcs_one b w3 hk hn)
    | (go_at_call 23; (with_reducible refine h23.mono ?_); rintro X w4 ⟨vP, rfl, hP, hb2⟩))
  have B4 := belows B2 (belows (al hb _) hb2)
  clear h23 hb hb2 hk hn B2
  go_upto_region 4 with (first
    | (go_at_call 34; (with_reducible refine (line_any 4 _).mono ?_); rintro X w5 ⟨b1, rfl, hk1, hn1, hb1⟩; rw [vcs])
    | (go_at_call 34; (with_reducible refine (line_any 2 _).mono ?_); rintro X w6 ⟨b2, rfl, hk2, hn2, hb2⟩; rw [vcs]; have h27 := mrg_one b1 b2 w5.heap.size w6 ((Has.new_ w5 60 b1.cs).on hb2) ((hk1.on (al1 _ _)).on hb2) hn1 hk2 hn2)
    | (go_at_call 27; (with_reducible refine h27.mono ?_); rintro X w7 ⟨vM, rfl, ⟨pM, lM, kM, rfl, hM, hMl⟩, hb3⟩))
  have B57 := belows (belows (al hb1 _) (al hb2 _)) hb3
  have B7 := belows B4 B57
  have hP7 := hP.on sl B57
  have h25 := eq_one vP w7 hP7
  clear h27 hb1 hb2 hb3 hk1 hk2 hn1 hn2 hP B4 B57 hP7
  go_wp2_with (first
    | (go_at_call 25; (with_reducible refine h25.mono ?_); rintro X w8 ⟨rfl, hb8⟩; have B8 := belows (al1 w7 _) hb8)
    | (go_at_call 34; (with_reducible refine (line_any 6 _).mono ?_); rintro X w9 ⟨b6, rfl, hk6, hn6, hb9⟩; rw [vcs]; have B9 := belows B8 hb9; have h22 := same_one pM lM kM b6 w9 (hM.on B9) hMl hk6 hn6)
    | (go_at_call 22; (with_reducible refine h22.mono ?_); rintro X w10 ⟨rfl, hb10⟩))
  go_ret
  exact ⟨rfl, belows B7 (belows B9 (belows (al1 _ _) hb10))⟩
end Go.Proofs.YthdafpbmmfelpaaGreatDoor
