/-
  folder.Check: what it answers at any entries.
-/
import Derived.Test.YtacghcoikekfeaaGreatFName
import Derived.Maps.OwnSet
namespace Go.Proofs.YtacghcoikekfeaaGreat
open Go.ChangeShapes Go.WideShapes Go.ChangeAt Go.RowKit Go.Deep Go.Maps Go.WideMaps
set_option maxRecDepth 100000
theorem law9 : Keyed Tryz.prog 9 := string_keyed Tryz.underlying9
theorem run_makeMap_some (t : TypeId) (k e : TypeId) (ht : Tryz.prog.underlying t = some (.map k e)) (w : World) (n : Int) : (Instr.makeMap t (some (.int .i64 n))).run Tryz.prog w = .ok (.map (some w.heap.size)) (w.alloc (.map #[] 0)) := by
  simp [Instr.makeMap, run_underlying ht, asInt, asIntOf]
abbrev VD (v : Value) (next : Int) : Value := .agg #[v, .int .i64 next]
abbrev BD (v : Value) (next : Int) : Obj := .cells #[v, .int .i64 next] 100
abbrev BE (x : Ent) : Obj := .cells #[.string x.1, .int .i64 x.2.1, .int .i64 x.2.2.1, .int .i64 x.2.2.2] 69
theorem made_at (w : World) {b : Nat} (h : w.heap.size = b) : Hid ((w.alloc (.map #[] 0)).ownsMap Tryz.prog 9 (unitElem (H := Unit)) b 0 (.map [])) := h ▸ World.ownsMap_made w _ _ _
theorem dir_cells {w wr : World} {v : Value} {next : Int} (h : Below (w.heap.size + 1) (w.alloc (BD v next)) wr) : wr.cell? ⟨w.heap.size, 0, none⟩ = some v ∧ wr.cell? ⟨w.heap.size, 1, none⟩ = some (.int .i64 next) := by
  rw [h.cell (p := ⟨w.heap.size, 0, none⟩) (by simp), h.cell (p := ⟨w.heap.size, 1, none⟩) (by simp)]
  have hh := heap_alloc_new w (BD v next)
  constructor <;> simp only [World.cell?, hh] <;> rfl
theorem over {w wr w1 : World} {v : Value} {next : Int} (_ : Below (w.heap.size + 1) (w.alloc (BD v next)) wr) (h : Below (w.heap.size + 1) (w.alloc (BD v next)) w1) : Below w.heap.size w w1 :=
  ⟨h.os, h.tape, h.output, by have := h.size; simp at this; omega, fun k hk => (h.block k (by omega)).trans (((Below.refl w.heap.size w).alloc (Nat.le_refl _) (BD v next)).block k hk)⟩
theorem cell_older {w1 : World} {p : Nat} (hp : p < w1.heap.size) (o : Obj) (j : Nat) : (w1.alloc o).cell? ⟨p, j, none⟩ = w1.cell? ⟨p, j, none⟩ := ((Below.refl w1.heap.size w1).alloc (Nat.le_refl _) o).cell (p := ⟨p, j, none⟩) hp
theorem ent_cells {w wr : World} {v : Value} {next : Int} {b off k : Nat} {x : Ent} (h : Below (w.heap.size + 1) (w.alloc (BD v next)) wr) (hB : b < w.heap.size) (hc : ∀ j u, (EE.cells x)[j]? = some u → w.cell? ⟨b, off + (k * EE.sz + j), none⟩ = some u) :
    wr.cell? ⟨b, off + k * 4, none⟩ = some (.string x.1) ∧ wr.cell? ⟨b, off + k * 4 + 1, none⟩ = some (.int .i64 x.2.1) ∧ wr.cell? ⟨b, off + k * 4 + 2, none⟩ = some (.int .i64 x.2.2.1) ∧ wr.cell? ⟨b, off + k * 4 + 3, none⟩ = some (.int .i64 x.2.2.2) := by
  have e : ∀ o, wr.cell? ⟨b, o, none⟩ = w.cell? ⟨b, o, none⟩ := fun o => (h.cell (p := ⟨b, o, none⟩) (by show b < _; omega)).trans (((Below.refl w.heap.size w).alloc (Nat.le_refl _) _).cell (p := ⟨b, o, none⟩) hB)
  have a := fun j u hj => (e _).trans (hc j u hj)
  exact ⟨a 0 _ rfl, a 1 _ rfl, a 2 _ rfl, a 3 _ rfl⟩
theorem behind {w wr w1 : World} {v : Value} {next : Int} (h : Below (w.heap.size + 1) (w.alloc (BD v next)) wr) (hws : w.heap.size + 1 ≤ wr.heap.size) (x : Ent) (hb : Below (wr.alloc (BE x)).heap.size (wr.alloc (BE x)) w1) :
    w1.cell? ⟨wr.heap.size, 0, none⟩ = some (.string x.1) ∧ w1.cell? ⟨wr.heap.size, 1, none⟩ = some (.int .i64 x.2.1) ∧ w1.cell? ⟨wr.heap.size, 2, none⟩ = some (.int .i64 x.2.2.1) ∧ w1.cell? ⟨wr.heap.size, 3, none⟩ = some (.int .i64 x.2.2.2) ∧
      w1.cell? ⟨w.heap.size, 0, none⟩ = some v ∧ w1.cell? ⟨w.heap.size, 1, none⟩ = some (.int .i64 next) ∧ Hid (wr.grownBy w1 none) ∧ wr.heap.size + 1 ≤ w1.heap.size := by
  have hg : wr.grownBy w1 none := grown_trans (World.grownBy_alloc wr (BE x) none) (grown_of_below hb none)
  have hsz : wr.heap.size + 1 ≤ w1.heap.size := by have := hb.size; simpa using this
  have hB : Below (w.heap.size + 1) (w.alloc (BD v next)) w1 := h.grown hg hws (fun k hk => by cases hk)
  have e : ∀ o, w1.cell? ⟨wr.heap.size, o, none⟩ = (wr.alloc (BE x)).cell? ⟨wr.heap.size, o, none⟩ := fun o => hb.cell (p := ⟨wr.heap.size, o, none⟩) (by simp)
  obtain ⟨d0, d1⟩ := dir_cells hB
  have hh := heap_alloc_new wr (BE x)
  refine ⟨?_, ?_, ?_, ?_, d0, d1, hg, hsz⟩ <;> rw [e] <;> simp only [World.cell?, hh] <;> rfl
set_option maxHeartbeats 2000000 in
theorem fcheck_any (v : Value) (l : List Ent) (next : Int) (w : World) (hv : AtW EE w v l) (hs : ∀ x ∈ l, x.1.size ≤ maxLen) :
    Calls Tryz.prog 66 #[VD v next] w fun e w' => e = .returned (.int .i64 (Fo.err l next)) ∧ Below w.heap.size w w' := by
  obtain ⟨ao, cap, rfl, hm, hx⟩ := hv.open
  clear hv
  unfold maxLen at hm
  obtain ⟨n, hn⟩ : ∃ n, l.length = n := ⟨_, rfl⟩
  rw [hn] at hm ⊢
  have HN : Hid (l.length = n) := hn
  have HX : Hid (∀ i x, l[i]? = some x → ∃ b off, ao = some ⟨b, off, none⟩ ∧ True ∧ b < w.heap.size ∧ ∀ k u, (EE.cells x)[k]? = some u → w.cell? ⟨b, off + (i * EE.sz + k), none⟩ = some u) := hx
  have HS : Hid (∀ x ∈ l, x.1.size ≤ maxLen) := hs
  clear hn hx hs
  by_cases h1 : 0 ≤ next ∧ next ≤ 1099511627776
  · have H1 : Hid (0 ≤ next ∧ next ≤ 1099511627776) := h1
    have hmm := run_makeMap_some 145 9 147 (by kernel_rfl)
    go_enter Tryz.func66, Tryz.ntmps66
    go_wp2_with fail
    refine (fwithin_yes _ _ _ _ H1.out).mono ?_
    rintro e w' ⟨rfl, rfl⟩
    go_wp2
    go_loopw [3, 18] (fun t i wr => ∃ k : Nat, k ≤ n ∧ i = .int .i64 k ∧ t = .int .i64 (Fo.lastC l k) ∧ Hid (Fo.Pre next l k) ∧ Hid (wr.ownsMap Tryz.prog 9 unitElem (w.heap.size + 1) k (Fo.Sn (H := Unit) l k)) ∧ Hid (Below (w.heap.size + 1) (w.alloc (BD (.slice ao n cap) next)) wr)) (fun _ i _ => n - (intOf i).toNat)
    case atStart => exact ⟨0, Nat.zero_le _, rfl, rfl, Fo.pre_zero _ _, by rw [Fo.Sn_zero]; exact made_at (w.alloc (BD (.slice ao n cap) next)) (by simp), (Below.refl _ _).alloc (by simp) _⟩
    case round =>
      obtain ⟨k, hk, rfl, rfl, HP, HOW, HBL⟩ := hrel
      obtain ⟨hd0, hd1⟩ := dir_cells HBL.out
      have hws : w.heap.size + 1 ≤ wr.heap.size := by have := HBL.out.size; simpa using this
      obtain ⟨hb0, hb1⟩ := Fo.lastC_bd HP.out (by rw [HN.out]; exact hk) H1.out.1
      have hb2 : next ≤ 1099511627776 := H1.out.2
      obtain ⟨la, hla⟩ : ∃ la, Fo.lastC l k = la := ⟨_, rfl⟩
      rw [hla] at hb0 hb1 ⊢
      have HLA : Hid (Fo.lastC l k = la) := hla
      clear hla h1
      by_cases hlt : k < n
      · obtain ⟨x, hxk⟩ : ∃ x, l[k]? = some x := ⟨_, List.getElem?_eq_getElem (by rw [HN.out]; exact hlt)⟩
        have HXK : Hid (l[k]? = some x) := hxk
        obtain ⟨b, off, rfl, -, hB, hc⟩ := HX.out k x hxk
        obtain ⟨c0, c1, c2, c3⟩ := ent_cells HBL.out hB hc
        have HSZ : Hid (x.1.size ≤ maxLen) := HS.out x (List.mem_of_getElem? hxk)
        clear hc hxk
        obtain ⟨xs, xc, xo, xg⟩ := x
        simp only at c0 c1 c2 c3 HSZ
        have hlt' : (k : Int) < (n : Int) := by omega
        by_cases g1 : Nm.ok xs
        · have E1 : Hid (Nm.err xs = 0) := Nm.err_ok g1
          by_cases g2 : la + 1 ≤ xc ∧ xc ≤ next
          · have G2 : Hid (la + 1 ≤ xc ∧ xc ≤ next) := g2
            by_cases g3 : Ho xo xg
            · have G3 : Hid (Ho xo xg) := g3
              have HG : Hid (Fo.Pre next l (k + 1)) := Fo.pre_succ HP.out fun y hy => by
                rw [HXK.out] at hy
                cases hy
                exact ⟨g1, by rw [HLA.out]; exact g2, g3⟩
              have HD : Hid (decide (Ho xo xg) = true) := decide_eq_true g3
              clear g1 g2 g3
              go_wp2_with fail
              refine (name_any xs _ HSZ.out).mono ?_
              rintro e w1 ⟨rfl, hb⟩
              rw [E1.out]
              obtain ⟨e0, e1, e2, e3, f0, f1, HB1, hs1⟩ := behind HBL.out hws (xs, xc, xo, xg) hb
              simp only at e0 e1 e2 e3
              clear hb
              go_wp2_with fail
              refine (fwithin_yes _ _ _ _ G2.out).mono ?_
              rintro e w2 ⟨rfl, rfl⟩
              go_wp2_with fail
              refine (rightTo_any xo xg _).mono ?_
              rintro e w2 ⟨rfl, rfl⟩
              rw [HD.out]
              have HOW2 := HOW.out.kept (grown_trans HB1.out (World.grownBy_alloc w2 (BHf xo xg) none)) (by simp)
              have HB3 : Hid (Below (w.heap.size + 1) (w.alloc (BD (.slice (some ⟨b, off, none⟩) n cap) next)) (w2.alloc (BHf xo xg))) := (HBL.out.grown HB1.out hws (fun j hj => by cases hj)).alloc (by omega) _
              rw [← cell_older (by omega) (BHf xo xg)] at e0 e1 f0
              have hs3 : w.heap.size + 1 ≤ (w2.alloc (BHf xo xg)).heap.size := by simp; omega
              clear e2 e3 f1 HB1 hs1 hd0 hd1 c0 c1 c2 c3
              generalize w2.alloc (BHf xo xg) = w3 at *
              have hkey := keyOf_string_mk Tryz.underlying9 HSZ.out
              go_wp2_with (first
                | (at_mapUpdate; refine wpList_mapUpdate_own _ rfl _ _ _ 145 rfl 9 147 law9 (by kernel_rfl) (unitElem (H := Unit)) (w.heap.size + 1) k _ rfl HOW2 (by unfold maxLen; omega) _ _ _ rfl rfl hkey _ [] unitElem_mk ?_; intro w5 hown1 hgrow1)
                | go_in)
              go_roundw
              case rel => exact ⟨k + 1, by omega, by go_num, by rw [Fo.lastC_succ HXK.out], HG, by rw [Fo.Sn_succ HXK.out]; exact hown1, HB3.out.grown hgrow1 hs3 (fun j hj => by cases hj; exact Nat.le_refl _)⟩
              case measure => simp [intOf]; omega
            · have HD : Hid (decide (Ho xo xg) = false) := decide_eq_false g3
              have H : Hid (Fo.err l next = 4) := Fo.not_good HXK.out fun h => g3 h.2.2
              clear g1 g2 g3
              go_wp2_with fail
              refine (name_any xs _ HSZ.out).mono ?_
              rintro e w1 ⟨rfl, hb⟩
              rw [E1.out]
              obtain ⟨e0, e1, e2, e3, f0, f1, HB1, hs1⟩ := behind HBL.out hws (xs, xc, xo, xg) hb
              simp only at e0 e1 e2 e3
              clear hb
              go_wp2_with fail
              refine (fwithin_yes _ _ _ _ G2.out).mono ?_
              rintro e w2 ⟨rfl, rfl⟩
              go_wp2_with fail
              refine (rightTo_any xo xg _).mono ?_
              rintro e w2 ⟨rfl, rfl⟩
              rw [HD.out]
              go_wp2
              go_ret
              rw [H.out]
              exact ⟨rfl, over HBL.out ((HBL.out.grown HB1.out hws (fun j hj => by cases hj)).alloc (by omega) _)⟩
          · have G2 : Hid (¬ (la + 1 ≤ xc ∧ xc ≤ next)) := g2
            have H : Hid (Fo.err l next = 4) := Fo.not_good HXK.out fun h => g2 (by have := h.2.1; rw [HLA.out] at this; exact this)
            clear g1 g2
            go_wp2_with fail
            refine (name_any xs _ HSZ.out).mono ?_
            rintro e w1 ⟨rfl, hb⟩
            rw [E1.out]
            obtain ⟨e0, e1, e2, e3, f0, f1, HB1, hs1⟩ := behind HBL.out hws (xs, xc, xo, xg) hb
            simp only at e0 e1 e2 e3
            clear hb
            go_wp2_with fail
            refine (fwithin_no _ _ _ _ G2.out).mono ?_
            rintro e w2 ⟨rfl, rfl⟩
            go_wp2
            go_ret
            rw [H.out]
            exact ⟨rfl, over HBL.out (HBL.out.grown HB1.out hws (fun j hj => by cases hj))⟩
        · have E1 : Hid (Nm.err xs = 409) := Nm.err_no g1
          have H : Hid (Fo.err l next = 4) := Fo.not_good HXK.out fun h => g1 h.1
          clear g1
          go_wp2_with fail
          refine (name_any xs _ HSZ.out).mono ?_
          rintro e w1 ⟨rfl, hb⟩
          rw [E1.out]
          obtain ⟨e0, e1, e2, e3, f0, f1, HB1, hs1⟩ := behind HBL.out hws (xs, xc, xo, xg) hb
          clear hb
          go_wp2
          go_ret
          rw [H.out]
          exact ⟨rfl, over HBL.out (HBL.out.grown HB1.out hws (fun j hj => by cases hj))⟩
      · obtain rfl : k = n := by omega
        have HE : Hid (Fo.err l next = if Maps.size (Fo.Sn (H := Unit) l k) < k then 4 else 0) := by
          have := Fo.err_all H1.out (l := l) (by rw [HN.out]; exact HP.out)
          rwa [HN.out] at this
        have HOW2 := HOW.out
        obtain ⟨D, hD⟩ : ∃ D, Fo.Sn (H := Unit) l k = D := ⟨_, rfl⟩
        rw [hD] at HE HOW2
        have hle := HOW2.size_le
        by_cases hz : Maps.size D < k
        · have hz' : (Maps.size D : Int) < (k : Int) := by omega
          have H : Hid (Fo.err l next = 4) := by
            have := HE.out
            rwa [if_pos hz] at this
          go_wp2_with (first
            | (at_len; refine wpList_len_own _ rfl _ 145 rfl 9 147 (by kernel_rfl) _ (w.heap.size + 1) k _ rfl HOW2 ?_)
            | go_in)
          go_ret
          rw [H.out]
          exact ⟨rfl, over HBL.out HBL.out⟩
        · have hz' : ¬ (Maps.size D : Int) < (k : Int) := by omega
          have H : Hid (Fo.err l next = 0) := by
            have := HE.out
            rwa [if_neg hz] at this
          go_wp2_with (first
            | (at_len; refine wpList_len_own _ rfl _ 145 rfl 9 147 (by kernel_rfl) _ (w.heap.size + 1) k _ rfl HOW2 ?_)
            | go_in)
          go_ret
          rw [H.out]
          exact ⟨rfl, over HBL.out HBL.out⟩
  · have H1 : Hid (¬ (0 ≤ next ∧ next ≤ 1099511627776)) := h1
    have H : Hid (Fo.err l next = 4) := Fo.err_no fun h => h1 h.1
    rw [H.out]
    clear h1
    go_enter Tryz.func66, Tryz.ntmps66
    go_wp2_with fail
    refine (fwithin_no _ _ _ _ H1.out).mono ?_
    rintro e w' ⟨rfl, rfl⟩
    go_wp2
    go_ret
    exact ⟨rfl, (Below.refl _ _).alloc (Nat.le_refl _) _⟩
end Go.Proofs.YtacghcoikekfeaaGreat
