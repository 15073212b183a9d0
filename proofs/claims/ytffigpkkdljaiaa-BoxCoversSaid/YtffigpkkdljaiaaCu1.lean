/- The reference: the cuts of a side. -/
import Derived.Test.YtffigpkkdljaiaaCu0
import Derived.Test.YtffigpkkdljaiaaPl
import Derived.Test.YtffigpkkdljaiaaRk
import Derived.Test.YtffigpkkdljaiaaFd
namespace Go.Proofs.Ytffigpkkdljaiaa
open Go.ChangeShapes Go.WideShapes Go.ChangeAt Go.RowKit
set_option linter.unusedVariables false
set_option linter.unusedSimpArgs false

theorem env_row {w w1 w2 : World} {g : Nat} {t : TypeId} {cs : Array Value} {row : Option Nat} (E : Env w w1 [⟨g, t, cs⟩]) (hg : w1.grownBy w2 row) (hr : ∀ k, row = some k → w.heap.size + 1 ≤ k) (hgw : g = w.heap.size := by rfl) : Env w w2 [⟨g, t, cs⟩] := by
  obtain ⟨h1, h2, h3, h4, h5⟩ := E
  refine ⟨h1.grown hg h1.size (fun k hk => by have := hr k hk; omega), h2, Has.grown_ h3 hg (fun e => by have := hr g e.symm; dsimp only at *; omega), h4, h5⟩
def slen : Value → Nat
  | .slice _ n _ => n
  | _ => 0
theorem s_cu {w W' : World} {b : Bx} {g k : Nat} {z : Int} (E : Env w W' [⟨w.heap.size, 25, #[.int .i64 b.a, .int .i64 b.b, .int .i64 b.c, .int .i64 b.d, .int .i64 b.e, .int .i64 b.f]⟩]) (h : W'.cell? ⟨g, k, none⟩ = some (.int .i64 z)) : Env w W' [⟨w.heap.size, 25, #[.int .i64 b.a, .int .i64 b.b, .int .i64 b.c, .int .i64 b.d, .int .i64 b.e, .int .i64 b.f]⟩] ∧ W'.cell? ⟨w.heap.size, 0, none⟩ = some (.int .i64 b.a) ∧ W'.cell? ⟨w.heap.size, 1, none⟩ = some (.int .i64 b.b) ∧ W'.cell? ⟨w.heap.size, 2, none⟩ = some (.int .i64 b.c) ∧ W'.cell? ⟨w.heap.size, 3, none⟩ = some (.int .i64 b.d) ∧ W'.cell? ⟨w.heap.size, 4, none⟩ = some (.int .i64 b.e) ∧ W'.cell? ⟨w.heap.size, 5, none⟩ = some (.int .i64 b.f) ∧ W'.cell? ⟨g, k, none⟩ = some (.int .i64 z) := by
  have C := E.cells
  simp [BC, CF] at C
  simp [C, E, h]
set_option maxHeartbeats 32000000 in
set_option maxRecDepth 100000 in
theorem cuts_any (ax : Int) (f : Int → Int → Int → Int) (h44 : ∀ p q r W, Calls Try.prog 44 #[.agg #[.int .i64 p, .int .i64 q, .int .i64 r], .int .i64 ax] W fun E w' => E = .returned (.int .i64 (f p q r)) ∧ Below W.heap.size W w')
    (p : Option Addr) (l : List Bx) (cap : Nat) (b : Bx) (w : World) (hS : Sl w p l) (hl : l.length ≤ 40) (os : List S2) (hos : os = l.map fun x => (f x.a x.b x.c, f x.d x.e x.f)) (lo hi : Int) (elo : f b.a b.b b.c = lo) (ehi : f b.d b.e b.f = hi) (h : lo ≤ hi) (hb0 : -1048576 ≤ lo) (hb1 : hi ≤ 1048576) :
    Calls Try.prog 63 #[.slice p l.length cap, b.val, .int .i64 ax] w fun e w' => ∃ v, e = .returned v ∧ OwnZ w.heap.size w' v (refX lo hi os) ∧ Below w.heap.size w w' := by
  obtain ⟨i0, hi', hz0, hz1, hz2⟩ := info_parts info3
  have E := (Env.nil w).add w.heap.size 25 #[.int .i64 b.a, .int .i64 b.b, .int .i64 b.c, .int .i64 b.d, .int .i64 b.e, .int .i64 b.f] rfl
  have clo := fun W => h44 b.a b.b b.c W
  have chi := fun W => h44 b.d b.e b.f W
  rw [elo] at clo
  rw [ehi] at chi
  clear elo ehi
  have hol : os.length = l.length := by rw [hos]; simp
  have HOL := Lib.hid hol
  have HOS := Lib.hid hos
  have HLH := Lib.hid (And.intro h (And.intro hb0 hb1))
  have C := E.cells
  simp [BC, CF] at C
  clear hos hol h hb0 hb1
  unfold Bx.val
  go_enter Try.func63, Try.ntmps63
  go_wp2_with (go_at_call 44; (with_reducible refine (clo _).mono ?_); rintro X0 w1 ⟨rfl, hb⟩; replace E := E.on hb; clear hb C)
  have hO : OwnZ (w.heap.size + 1) (w1.alloc (.cells #[.int .i64 lo] 3)) (.slice (some ⟨w1.heap.size, 0, none⟩) 1 1) [lo] := by
    have hs := (envb E).size
    have hs2 := E.lt 0 (by simp)
    simp only [numB] at hs2
    have := World.ownsRow_lit (e := 3) (size := 1) (base := w.heap.size + 1) w1 #[.int .i64 lo] 1 (by omega) (by unfold maxLen; omega) (by simp)
    simpa [OwnZ, zv] using this
  replace E := E.more (.cells #[.int .i64 lo] 3)
  go_loopw [7] (fun v7 wr => ∃ (X : List Int) (last : Int), Hid (Cin lo hi os X last) ∧ OwnZ (w.heap.size + 1) wr v7 X ∧ Env w wr [⟨w.heap.size, 25, #[.int .i64 b.a, .int .i64 b.b, .int .i64 b.c, .int .i64 b.d, .int .i64 b.e, .int .i64 b.f]⟩]) (fun v _ => 2097154 - slen v)
  case atStart => exact ⟨[lo], lo, Lib.hid (Cin.first os HLH.out.1), hO, E⟩
  case round =>
    clear E hO
    obtain ⟨X, last, HC, hO, E⟩ := hrel
    obtain ⟨q, c, rfl, hC⟩ := (Own.rd zl (ownz.2 hO)).z
    have hne : 0 < X.length := List.length_pos_iff.2 HC.out.ne
    have hXl : (X.length : Int) ≤ 2097153 := by have h1 := HC.out.len; have h2 := HC.out.hi_; have h3 := HLH.out; omega
    have W1 : IntKind.i64.wrap ((X.length : Int) - 1) = ((X.length - 1 : Nat) : Int) := by rw [IntWalk.i64_in _ (by omega)]; omega
    obtain ⟨g, rfl, hc⟩ := hC (X.length - 1) (by omega)
    have hlast : X[X.length - 1]'(by omega) = last := by
      have h1 := HC.out.last_
      rw [List.getLast?_eq_getElem?, List.getElem?_eq_getElem (by omega)] at h1
      exact Option.some.inj h1
    rw [hlast] at hc
    clear hlast
    have q1 : (0 : Int) ≤ ((X.length - 1 : Nat) : Int) := by omega
    have q2 : ((X.length - 1 : Nat) : Int) < (X.length : Int) := by omega
    go_wp2_with fail
    refine wp_region_plan 10 [(0, true), (1, true), (2, true), (3, true), (4, true), (5, true), (6, true), (7, true), (8, true), (9, false)] (fun W' => Env w W' [⟨w.heap.size, 25, #[.int .i64 b.a, .int .i64 b.b, .int .i64 b.c, .int .i64 b.d, .int .i64 b.e, .int .i64 b.f]⟩] ∧ W'.cell? ⟨w.heap.size, 0, none⟩ = some (.int .i64 b.a) ∧ W'.cell? ⟨w.heap.size, 1, none⟩ = some (.int .i64 b.b) ∧ W'.cell? ⟨w.heap.size, 2, none⟩ = some (.int .i64 b.c) ∧ W'.cell? ⟨w.heap.size, 3, none⟩ = some (.int .i64 b.d) ∧ W'.cell? ⟨w.heap.size, 4, none⟩ = some (.int .i64 b.e) ∧ W'.cell? ⟨w.heap.size, 5, none⟩ = some (.int .i64 b.f) ∧ W'.cell? ⟨g, X.length - 1, none⟩ = some (.int .i64 last)) (by kernel_rfl) (by kernel_rfl) (fun _ _ d _ _ h => by cases d <;> exact h) (s_cu E.drw (show wr.drew.cell? _ = _ from hc)) ?_
    simp only [List.filterMap_cons, List.filterMap_nil, List.getElem?_cons_zero, List.getElem?_cons_succ, Option.map_some, List.drop_succ_cons, List.drop_zero]
    iterate 9 (refine wpPlan_still (v := ?_) (Or.inl ⟨by rfl, ?_⟩) ?_; rotate_left; (focus (intro W hW; (try dsimp only at hW); go_split_ands; go_simp; try with_reducible rfl)); try simp only [Act.put, List.setIfInBounds_toArray, List.set_cons_zero, List.set_cons_succ])
    refine wpPlan_only (fun K hK => ?_)
    try go_simp
    (go_at_call 44; (with_reducible refine (chi _).mono ?_); rintro X1 w2 ⟨rfl, hb⟩)
    have HB := belows (below_dr (Below.refl wr.heap.size wr)) hb
    have E2 := E.on HB
    have hc2 := cell_later HB hc
    have hO2 := own_on hO HB
    clear hb
    try go_wp2_with fail
    refine hK.out _ _ (s_cu E2 hc2) ?_
    clear hK K
    try simp only [Act.put, List.setIfInBounds_toArray, List.set_cons_zero, List.set_cons_succ]
    refine wpPlan_end ?_
    clear E hc hO hC
    have C := E2.cells
    simp [BC, CF] at C
    by_cases hlh : last < hi
    · have g1 : decide (last < hi) = true := decide_eq_true hlh
      have HL := Lib.hid hlh
      clear hlh
      go_wp2_with (go_at_call 44; (with_reducible refine (chi _).mono ?_); rintro X1 w3 ⟨rfl, hb⟩; have E3 := E2.on hb; have hO3 := own_on hO2 hb; clear E2 hO2 hc2 C hb)
      go_loopw [9, 10] (fun v9 v10 wr => ∃ (i : Nat) (nx : Int), v10 = .int .i64 i ∧ v9 = .int .i64 nx ∧ i ≤ l.length ∧ Hid (nx = nxF last hi (os.take i)) ∧ Env w wr [⟨w.heap.size, 25, #[.int .i64 b.a, .int .i64 b.b, .int .i64 b.c, .int .i64 b.d, .int .i64 b.e, .int .i64 b.f]⟩] ∧ Below w3.heap.size w3 wr) (fun _ v _ => l.length - (intOf v).toNat)
      case atStart => exact ⟨0, hi, rfl, rfl, Nat.zero_le _, Lib.hid rfl, E3, Below.refl _ _⟩
      case round =>
        clear E3
        obtain ⟨i, nx, rfl, rfl, hil, HN, E, HB3⟩ := hrel
        by_cases hlt : i < l.length
        · have g2 : decide ((i : Int) < (l.length : Int)) = true := by simp [hlt]
          have W2 : IntKind.i64.wrap ((i : Int) + 1) = ((i + 1 : Nat) : Int) := by rw [IntWalk.i64_in _ (by omega)]; omega
          obtain ⟨a, rfl, e0, e1, e2, e3, e4, e5⟩ := hS.at hlt
          have q3 : (0 : Int) ≤ (i : Int) := by omega
          have q4 : (i : Int) < (l.length : Int) := by omega
          obtain ⟨o1, O1⟩ : ∃ o, Hid (f l[i].a l[i].b l[i].c = o) := ⟨_, Lib.hid rfl⟩
          obtain ⟨o2, O2⟩ : ∃ o, Hid (f l[i].d l[i].e l[i].f = o) := ⟨_, Lib.hid rfl⟩
          have HT : Hid (nxF last hi (os.take (i + 1)) = nx1 last (nx1 last nx o1) o2) := Lib.hid (by
            have hio : i < os.length := by rw [HOL.out]; exact hlt
            rw [nxF_take last hi os hio, ← HN.out]
            have e : os[i] = (o1, o2) := by simp only [HOS.out, List.getElem_map, O1.out, O2.out]
            rw [e])
          have c1 := fun W => h44 l[i].a l[i].b l[i].c W
          have c2 := fun W => h44 l[i].d l[i].e l[i].f W
          rw [O1.out] at c1
          rw [O2.out] at c2
          generalize l[i].a = la at *
          generalize l[i].b = lb at *
          generalize l[i].c = lc at *
          generalize l[i].d = ld at *
          generalize l[i].e = le at *
          generalize l[i].f = lf at *
          go_wp2_with fail
          go_loopw [9, 11] (fun v9 v11 wq => ∃ (k : Nat) (nn : Int), v11 = .int .i64 k ∧ v9 = .int .i64 nn ∧ k ≤ 2 ∧ Hid (nn = if k = 0 then nx else if k = 1 then nx1 last nx o1 else nx1 last (nx1 last nx o1) o2) ∧ Env w wq [⟨w.heap.size, 25, #[.int .i64 b.a, .int .i64 b.b, .int .i64 b.c, .int .i64 b.d, .int .i64 b.e, .int .i64 b.f]⟩] ∧ Below w3.heap.size w3 wq) (fun _ v _ => 2 - (intOf v).toNat)
          case atStart => exact ⟨0, nx, rfl, rfl, by omega, Lib.hid rfl, E, HB3⟩
          case round =>
            clear E HB3
            obtain ⟨k, nn, rfl, rfl, hk2, HK, E, HB3⟩ := hrel
            have d0 := cell_later (envb E) e0
            have d1 := cell_later (envb E) e1
            have d2 := cell_later (envb E) e2
            have d3 := cell_later (envb E) e3
            have d4 := cell_later (envb E) e4
            have d5 := cell_later (envb E) e5
            rcases (by omega : k = 0 ∨ k = 1 ∨ k = 2) with rfl | rfl | rfl
            · have hn0 : nn = nx := by rw [HK.out, if_pos rfl]
              subst hn0
              clear HK
              by_cases y1 : last < o1
              · by_cases y2 : o1 < nn
                · have HK2 : Hid (o1 = nx1 last nn o1) := Lib.hid (by unfold nx1; rw [if_pos ⟨y1, y2⟩])
                  have z1 : decide (last < o1) = true := decide_eq_true y1
                  have z2 : decide (o1 < nn) = true := decide_eq_true y2
                  clear y1 y2
                  go_wp2_with (go_at_call 44; (with_reducible refine (c1 _).mono ?_); rintro X1 w4 ⟨rfl, hb⟩; replace E := E.on hb; replace HB3 := belows HB3 hb; clear hb)
                  exact ⟨⟨1, o1, rfl, rfl, by omega, Lib.hid HK2.out, E, HB3⟩, by simp [intOf]⟩
                · have HK2 : Hid (nn = nx1 last nn o1) := Lib.hid (by unfold nx1; rw [if_neg (fun h => y2 h.2)])
                  have z1 : decide (last < o1) = true := decide_eq_true y1
                  have z2 : decide (o1 < nn) = false := decide_eq_false y2
                  clear y1 y2
                  go_wp2_with (go_at_call 44; (with_reducible refine (c1 _).mono ?_); rintro X1 w4 ⟨rfl, hb⟩; replace E := E.on hb; replace HB3 := belows HB3 hb; clear hb)
                  exact ⟨⟨1, nn, rfl, rfl, by omega, Lib.hid HK2.out, E, HB3⟩, by simp [intOf]⟩
              · have HK2 : Hid (nn = nx1 last nn o1) := Lib.hid (by unfold nx1; rw [if_neg (fun h => y1 h.1)])
                have z1 : decide (last < o1) = false := decide_eq_false y1
                clear y1
                go_wp2_with (go_at_call 44; (with_reducible refine (c1 _).mono ?_); rintro X1 w4 ⟨rfl, hb⟩; replace E := E.on hb; replace HB3 := belows HB3 hb; clear hb)
                exact ⟨⟨1, nn, rfl, rfl, by omega, Lib.hid HK2.out, E, HB3⟩, by simp [intOf]⟩
            · have hn0 : Hid (nn = nx1 last nx o1) := Lib.hid (by rw [HK.out, if_neg (by decide), if_pos rfl])
              clear HK
              by_cases y1 : last < o2
              · by_cases y2 : o2 < nn
                · have HK2 : Hid (o2 = nx1 last (nx1 last nx o1) o2) := Lib.hid (by rw [← hn0.out]; unfold nx1; rw [if_pos ⟨y1, y2⟩])
                  have z1 : decide (last < o2) = true := decide_eq_true y1
                  have z2 : decide (o2 < nn) = true := decide_eq_true y2
                  clear y1 y2
                  go_wp2_with (go_at_call 44; (first | with_reducible refine (c1 _).mono ?_ | with_reducible refine (c2 _).mono ?_); rintro X1 w4 ⟨rfl, hb⟩; replace E := E.on hb; replace HB3 := belows HB3 hb; replace d3 := cell_later hb d3; replace d4 := cell_later hb d4; replace d5 := cell_later hb d5; clear hb)
                  exact ⟨⟨2, o2, rfl, rfl, by omega, Lib.hid HK2.out, E, HB3⟩, by simp [intOf]⟩
                · have HK2 : Hid (nn = nx1 last (nx1 last nx o1) o2) := Lib.hid (by rw [← hn0.out]; unfold nx1; rw [if_neg (fun h => y2 h.2)])
                  have z1 : decide (last < o2) = true := decide_eq_true y1
                  have z2 : decide (o2 < nn) = false := decide_eq_false y2
                  clear y1 y2
                  go_wp2_with (go_at_call 44; (first | with_reducible refine (c1 _).mono ?_ | with_reducible refine (c2 _).mono ?_); rintro X1 w4 ⟨rfl, hb⟩; replace E := E.on hb; replace HB3 := belows HB3 hb; replace d3 := cell_later hb d3; replace d4 := cell_later hb d4; replace d5 := cell_later hb d5; clear hb)
                  exact ⟨⟨2, nn, rfl, rfl, by omega, Lib.hid HK2.out, E, HB3⟩, by simp [intOf]⟩
              · have HK2 : Hid (nn = nx1 last (nx1 last nx o1) o2) := Lib.hid (by rw [← hn0.out]; unfold nx1; rw [if_neg (fun h => y1 h.1)])
                have z1 : decide (last < o2) = false := decide_eq_false y1
                clear y1
                go_wp2_with (go_at_call 44; (first | with_reducible refine (c1 _).mono ?_ | with_reducible refine (c2 _).mono ?_); rintro X1 w4 ⟨rfl, hb⟩; replace E := E.on hb; replace HB3 := belows HB3 hb; replace d3 := cell_later hb d3; replace d4 := cell_later hb d4; replace d5 := cell_later hb d5; clear hb)
                exact ⟨⟨2, nn, rfl, rfl, by omega, Lib.hid HK2.out, E, HB3⟩, by simp [intOf]⟩
            · have hn0 : Hid (nn = nx1 last (nx1 last nx o1) o2) := Lib.hid (by rw [HK.out, if_neg (by decide), if_neg (by decide)])
              go_wp2
              exact ⟨⟨i + 1, nn, rfl, rfl, hlt, Lib.hid (by rw [HT.out, hn0.out]), E, HB3⟩, by simp [intOf]; omega⟩
        · have g2 : decide ((i : Int) < (l.length : Int)) = false := by simp; omega
          have HN2 : Hid (nx = nxF last hi os) := Lib.hid (by rw [HN.out, List.take_of_length_le (by rw [HOL.out]; omega)])
          have hO4 := own_on hO3 HB3
          have hs := (envb E).size
          have hs2 := E.lt 0 (by simp)
          simp only [numB] at hs2
          have HCN := Lib.hid (HC.out.next HL.out)
          rw [← HN2.out] at HCN
          clear hO3 HB3 HN
          go_wp2_with (at_builtin; refine wpList_append_own_at _ rfl _ _ 65 rfl (w.heap.size + 1) 3 i0 _ 1 8 Try.underlying65 hi' hz0 hz1 hz2 rfl (by decide) _ X.length (zv X) rfl (own_on hO4 (al1 _ _)) ⟨_, 0, none⟩ 1 1 [.int .i64 nx] rfl rfl (cell_one_new _ _ _) (by simp [Value.oneCell']) (by unfold maxLen; omega) (by omega) (by simp; omega) ?_)
          intro v' w5 p1 p2 p3 p4
          have ob := al1 wr (.cells #[.int .i64 nx] 3)
          have O5 : OwnZ (w.heap.size + 1) w5 v' (X ++ [nx]) := by
            unfold OwnZ
            rw [List.length_append, show zv (X ++ [nx]) = zv X ++ [.int .i64 nx] by simp [zv]]
            exact p1
          have E5 : Env w w5 [⟨w.heap.size, 25, #[.int .i64 b.a, .int .i64 b.b, .int .i64 b.c, .int .i64 b.d, .int .i64 b.e, .int .i64 b.f]⟩] := env_row (E.on ob) p2 (fun k hk => (World.ownsRow.lt hO4 k hk).1)
          have hv' : slen v' = X.length + 1 := by
            obtain ⟨q', c', e', -⟩ := (Own.rd zl (ownz.2 O5)).z
            rw [e']; simp [slen]
          clear p1 p2 p3 p4 ob
          go_wp2
          go_roundw
          · exact ⟨X ++ [nx], nx, HCN, O5, E5⟩
          · rw [hv']; show 2097154 - (X.length + 1) < 2097154 - X.length; omega
    · have g1 : decide (last < hi) = false := decide_eq_false hlh
      have HE : Hid (X = refX lo hi os) := Lib.hid (by
        by_cases e : lo = hi
        · exact HC.out.none e
        · exact HC.out.done hlh e)
      go_wp2
      go_ret
      exact ⟨_, rfl, by rw [← HE.out]; exact ownz.1 (Own.mono (ownz.2 hO2) (by omega)), envb E2⟩
end Go.Proofs.Ytffigpkkdljaiaa
