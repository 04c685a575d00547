/-
  The document's answer: sextonref10.Right.
-/
import Derived.Test.YtacghcoikekfeaaGreatFRefA
namespace Go.Proofs.YtacghcoikekfeaaGreat
open Go.ChangeShapes Go.WideShapes Go.ChangeAt Go.RowKit Go.Deep
set_option maxRecDepth 100000
namespace Fo
/-- Of the first k names each stands there first. -/
def firsts (l : List Ent) (k : Nat) : Prop := ∀ (i : Nat) x, i < k → l[i]? = some x → at' (called x.1) l = i
theorem called_iff {s : ByteArray} {x : Ent} : called s x = true ↔ x.1 = s := by
  unfold called
  rw [beq_iff_eq, ByteArray.toList_eq, ByteArray.toList_eq]
  constructor
  · intro h
    obtain ⟨⟨⟨a⟩⟩, c⟩ := x
    obtain ⟨⟨b⟩⟩ := s
    simp only at h
    simp [h]
  · rintro rfl
    rfl
theorem first_of_apart {l : List Ent} (h : apart l) {i : Nat} {x : Ent} (hx : l[i]? = some x) : at' (called x.1) l = i := by
  refine at_hit hx (called_iff.2 rfl) fun j y hj hy => ?_
  cases hc : called x.1 y
  · rfl
  · exfalso
    have e := called_iff.1 hc
    have hil := (List.getElem?_eq_some_iff.1 hx)
    have hjl := (List.getElem?_eq_some_iff.1 hy)
    have := (List.pairwise_iff_getElem.1 h) j i (by simpa using hjl.1) (by simpa using hil.1) hj
    apply this
    simp only [List.getElem_map, hil.2, hjl.2]
    exact e
theorem apart_of_firsts {l : List Ent} (h : firsts l l.length) : apart l := by
  refine List.pairwise_iff_getElem.2 fun i j hi hj hij e => ?_
  have hj' : j < l.length := by simpa using hj
  have hx : l[i]? = some (l[i]'(by omega)) := List.getElem?_eq_getElem _
  have hy : l[j]? = some (l[j]'hj') := List.getElem?_eq_getElem _
  have h1 := h i _ (by omega) hx
  have h2 := h j _ hj' hy
  simp only [List.getElem_map] at e
  rw [e, h2] at h1
  omega
theorem firsts_zero (l : List Ent) : firsts l 0 := fun i x h => by omega
theorem firsts_succ {l : List Ent} {k : Nat} {x : Ent} (h : firsts l k) (hx : l[k]? = some x) (hp : at' (called x.1) l = k) : firsts l (k + 1) := fun i y hi hy => by
  by_cases e : i = k
  · subst e
    rw [hx] at hy
    cases hy
    exact hp
  · exact h i y (by omega) hy
theorem prev_of {l : List Ent} {k : Nat} {y : Ent} (hy : l[k]? = some y) : lastC l (k + 1) = y.2.1 := lastC_succ hy
end Fo
theorem below_drewN {B : Nat} {w w' : World} (h : Below B w w') (q : Nat) : Below B w (w'.drewN q) := ⟨h.os, h.tape, h.output, h.size, h.block⟩
set_option maxHeartbeats 4000000 in
theorem frright_any (v : Value) (l : List Ent) (next : Int) (w : World) (hv : AtW EE w v l) (hs : ∀ x ∈ l, x.1.size ≤ maxLen) :
    Calls Tryz.prog 36 #[v, .int .i64 next] w fun e w' => e = .returned (.bool (decide (Fo.err l next = 0))) ∧ Below w.heap.size w w' := by
  have HV : Hid (AtW EE w v l) := hv
  obtain ⟨ao, cap, rfl, hm, hx⟩ := hv.open
  clear hv
  unfold maxLen at hm
  obtain ⟨n, hn⟩ : ∃ n, l.length = n := ⟨_, rfl⟩
  rw [hn] at hm HV ⊢
  have HN : Hid (l.length = n) := hn
  have HX : Hid (∀ i x, l[i]? = some x → ∃ b off, ao = some ⟨b, off, none⟩ ∧ True ∧ b < w.heap.size ∧ ∀ k u, (EE.cells x)[k]? = some u → w.cell? ⟨b, off + (i * EE.sz + k), none⟩ = some u) := hx
  have HS : Hid (∀ x ∈ l, x.1.size ≤ maxLen) := hs
  clear hn hx hs
  by_cases n0 : next < 0
  · have H : Hid (Fo.err l next = 4) := Fo.err_no fun h => by have := h.1.1; omega
    rw [H.out]
    go_enter Tryz.func36, Tryz.ntmps36
    go_wp2
    go_ret
    exact ⟨rfl, Below.refl _ _⟩
  by_cases n1 : 1099511627776 < next
  · have H : Hid (Fo.err l next = 4) := Fo.err_no fun h => by have := h.1.2; omega
    rw [H.out]
    go_enter Tryz.func36, Tryz.ntmps36
    go_wp2
    go_ret
    exact ⟨rfl, Below.refl _ _⟩
  have H1 : Hid (0 ≤ next ∧ next ≤ 1099511627776) := ⟨by omega, by omega⟩
  go_enter Tryz.func36, Tryz.ntmps36
  go_wp2
  go_loopw [15] (fun i wr => ∃ k : Nat, k ≤ n ∧ i = .int .i64 k ∧ Hid (Fo.Pre next l k ∧ Fo.firsts l k) ∧ Hid (Below w.heap.size w wr)) (fun i _ => n - (intOf i).toNat)
  case atStart => exact ⟨0, Nat.zero_le _, rfl, ⟨Fo.pre_zero _ _, Fo.firsts_zero _⟩, Below.refl _ _⟩
  case round =>
    obtain ⟨k, hk, rfl, HP, HB⟩ := hrel
    by_cases hlt : k < n
    · obtain ⟨x, hxk⟩ : ∃ x, l[k]? = some x := ⟨_, List.getElem?_eq_getElem (by rw [HN.out]; exact hlt)⟩
      have HXK : Hid (l[k]? = some x) := hxk
      obtain ⟨b2, off, rfl, -, hB, hcx⟩ := HX.out k x hxk
      have a := fun j u hj => (HB.out.cell (p := ⟨b2, off + (k * EE.sz + j), none⟩) hB).trans (hcx j u hj)
      have c0 : wr.cell? ⟨b2, off + k * 4, none⟩ = some (.string x.1) := a 0 _ rfl
      have c1 : wr.cell? ⟨b2, off + k * 4 + 1, none⟩ = some (.int .i64 x.2.1) := a 1 _ rfl
      have c2 : wr.cell? ⟨b2, off + k * 4 + 2, none⟩ = some (.int .i64 x.2.2.1) := a 2 _ rfl
      have c3 : wr.cell? ⟨b2, off + k * 4 + 3, none⟩ = some (.int .i64 x.2.2.2) := a 3 _ rfl
      have HBX : Hid (b2 < w.heap.size) := hB
      have hsz := HB.out.size
      have HSZ : Hid (x.1.size ≤ maxLen) := HS.out x (List.mem_of_getElem? hxk)
      have HV1 : Hid (AtW EE (wr.alloc (BE x)) (.slice (some ⟨b2, off, none⟩) n cap) l) := (HV.out.up HB.out).up ((Below.refl _ _).alloc (Nat.le_refl _) _)
      have HB1 : Hid (Below w.heap.size w (wr.alloc (BE x))) := HB.out.alloc hsz _
      obtain ⟨⟨x0, x1, x2, x3⟩, -⟩ := four_of (heap_alloc_new wr (BE x))
      have hlt' : (k : Int) < (n : Int) := by omega
      clear a hcx hxk n0 n1 hB
      obtain ⟨xs, xc, xo, xg⟩ := x
      simp only at c0 c1 c2 c3 HSZ x0 x1 x2 x3 HV1 HB1
      by_cases g1 : Nm.ok xs
      · have E1 : Hid (Nm.err xs = 0) := Nm.err_ok g1
        by_cases g2 : Fo.at' (Fo.called xs) l = k
        · have E2 : Hid (Fo.at' (Fo.called xs) l = k) := g2
          by_cases g3 : Ho xo xg
          · have E3 : Hid (decide (Ho xo xg) = true) := decide_eq_true g3
            by_cases g4 : xc < 1
            · have H : Hid (Fo.err l next = 4) := Fo.not_good HXK.out fun h => by
                have h1 := (Fo.lastC_bd HP.out.1 (by rw [HN.out]; exact hk) H1.out.1).1
                have h2 := h.2.1.1
                simp only at h2
                omega
              clear g1 g2 g3
              go_wp2_with fail
              refine (rname_any xs _ HSZ.out).mono ?_
              rintro e w1 ⟨rfl, rfl⟩
              rw [E1.out]
              go_wp2_with fail
              refine (rplace_any _ l xs _ HV1.out).mono ?_
              rintro e w2 ⟨rfl, hb2⟩
              rw [E2.out]
              have HB2 : Hid (Below w.heap.size w w2) := HB1.out.trans (hb2.mono HB1.out.size)
              have y1 := cell_step x1 hb2
              have y2 := cell_step x2 hb2
              have y3 := cell_step x3 hb2
              have hs2 := HB2.out.size
              clear hb2
              go_wp2_with fail
              refine (rto_any xo xg _).mono ?_
              rintro e w3 ⟨rfl, rfl⟩
              rw [E3.out]
              have z1 := (cell_older (cell_lt y1) (BHf xo xg) 1).trans y1
              have HB3 : Hid (Below w.heap.size w (w2.alloc (BHf xo xg))) := HB2.out.alloc hs2 _
              go_wp2
              go_ret
              rw [H.out]
              exact ⟨rfl, HB3.out⟩
            · by_cases g5 : next < xc
              · have H : Hid (Fo.err l next = 4) := Fo.not_good HXK.out fun h => by
                  have h2 := h.2.1.2
                  simp only at h2
                  omega
                clear g1 g2 g3
                go_wp2_with fail
                refine (rname_any xs _ HSZ.out).mono ?_
                rintro e w1 ⟨rfl, rfl⟩
                rw [E1.out]
                go_wp2_with fail
                refine (rplace_any _ l xs _ HV1.out).mono ?_
                rintro e w2 ⟨rfl, hb2⟩
                rw [E2.out]
                have HB2 : Hid (Below w.heap.size w w2) := HB1.out.trans (hb2.mono HB1.out.size)
                have y1 := cell_step x1 hb2
                have y2 := cell_step x2 hb2
                have y3 := cell_step x3 hb2
                have hs2 := HB2.out.size
                clear hb2
                go_wp2_with fail
                refine (rto_any xo xg _).mono ?_
                rintro e w3 ⟨rfl, rfl⟩
                rw [E3.out]
                have z1 := (cell_older (cell_lt y1) (BHf xo xg) 1).trans y1
                have HB3 : Hid (Below w.heap.size w (w2.alloc (BHf xo xg))) := HB2.out.alloc hs2 _
                go_wp2
                go_ret
                rw [H.out]
                exact ⟨rfl, HB3.out⟩
              · by_cases g6 : k = 0
                · have HG : Hid (Fo.Pre next l (k + 1) ∧ Fo.firsts l (k + 1)) := ⟨Fo.pre_succ HP.out.1 fun y hy => by
                    rw [HXK.out] at hy
                    cases hy
                    subst g6
                    exact ⟨g1, ⟨by simp only [Fo.lastC]; omega, by simp only; omega⟩, g3⟩, Fo.firsts_succ HP.out.2 HXK.out g2⟩
                  clear g1 g2 g3
                  subst g6
                  simp only [Nat.zero_mul, Nat.add_zero] at c0 c1 c2 c3
                  go_wp2_with fail
                  refine (rname_any xs _ HSZ.out).mono ?_
                  rintro e w1 ⟨rfl, rfl⟩
                  rw [E1.out]
                  go_wp2_with fail
                  refine (rplace_any _ l xs _ HV1.out).mono ?_
                  rintro e w2 ⟨rfl, hb2⟩
                  rw [E2.out]
                  have HB2 : Hid (Below w.heap.size w w2) := HB1.out.trans (hb2.mono HB1.out.size)
                  have y1 := cell_step x1 hb2
                  have y2 := cell_step x2 hb2
                  have y3 := cell_step x3 hb2
                  have hs2 := HB2.out.size
                  clear hb2
                  go_wp2_with fail
                  refine (rto_any xo xg _).mono ?_
                  rintro e w3 ⟨rfl, rfl⟩
                  rw [E3.out]
                  have z1 := (cell_older (cell_lt y1) (BHf xo xg) 1).trans y1
                  have HB3 : Hid (Below w.heap.size w (w2.alloc (BHf xo xg))) := HB2.out.alloc hs2 _
                  go_wp2_with fail
                  go_quiet (fail)
                  go_wp2
                  go_roundw
                  case rel => exact ⟨0 + 1, by omega, by go_num, HG, below_drewN HB3.out _⟩
                  case measure => simp [intOf]; omega
                · obtain ⟨j, rfl⟩ : ∃ j, k = j + 1 := ⟨k - 1, by omega⟩
                  obtain ⟨y, hyj⟩ : ∃ y, l[j]? = some y := ⟨_, List.getElem?_eq_getElem (by rw [HN.out]; omega)⟩
                  have HY : Hid (l[j]? = some y) := hyj
                  have HL : Hid (Fo.lastC l (j + 1) = y.2.1) := Fo.lastC_succ hyj
                  obtain ⟨b3, off3, hbo, -, hB3, hcy⟩ := HX.out j y hyj
                  simp only [Option.some.injEq, Addr.mk.injEq, and_true] at hbo
                  obtain ⟨rfl, rfl⟩ := hbo
                  have HCY : Hid (w.cell? ⟨b2, off + j * 4 + 1, none⟩ = some (.int .i64 y.2.1)) := hcy 1 _ rfl
                  clear hyj hcy g6
                  have hj0 : (0 : Int) < ((j + 1 : Nat) : Int) := by omega
                  have hjs : ((j + 1 : Nat) : Int) - 1 = (j : Int) := by omega
                  obtain ⟨yc, hyc⟩ : ∃ yc, y.2.1 = yc := ⟨_, rfl⟩
                  rw [hyc] at HL HCY
                  clear hyc
                  by_cases g7 : xc ≤ yc
                  · have H : Hid (Fo.err l next = 4) := Fo.not_good HXK.out fun h => by
                      have h2 := h.2.1.1
                      simp only at h2
                      rw [HL.out] at h2
                      omega
                    clear g1 g2 g3
                    go_wp2_with fail
                    refine (rname_any xs _ HSZ.out).mono ?_
                    rintro e w1 ⟨rfl, rfl⟩
                    rw [E1.out]
                    go_wp2_with fail
                    refine (rplace_any _ l xs _ HV1.out).mono ?_
                    rintro e w2 ⟨rfl, hb2⟩
                    rw [E2.out]
                    have HB2 : Hid (Below w.heap.size w w2) := HB1.out.trans (hb2.mono HB1.out.size)
                    have y1 := cell_step x1 hb2
                    have y2 := cell_step x2 hb2
                    have y3 := cell_step x3 hb2
                    have hs2 := HB2.out.size
                    clear hb2
                    have v1 := (cell_older (Nat.lt_of_lt_of_le HBX.out hs2) (BHf xo xg) (off + j * 4 + 1)).trans ((HB2.out.cell (p := ⟨b2, off + j * 4 + 1, none⟩) HBX.out).trans HCY.out)
                    go_wp2_with fail
                    refine (rto_any xo xg _).mono ?_
                    rintro e w3 ⟨rfl, rfl⟩
                    rw [E3.out]
                    have z1 := (cell_older (cell_lt y1) (BHf xo xg) 1).trans y1
                    have HB3 : Hid (Below w.heap.size w (w2.alloc (BHf xo xg))) := HB2.out.alloc hs2 _
                    go_wp2_with fail
                    go_quiet (fail)
                    go_wp2
                    go_ret
                    rw [H.out]
                    exact ⟨rfl, below_drewN HB3.out _⟩
                  · have HG : Hid (Fo.Pre next l (j + 1 + 1) ∧ Fo.firsts l (j + 1 + 1)) := ⟨Fo.pre_succ HP.out.1 fun y hy => by
                      rw [HXK.out] at hy
                      cases hy
                      exact ⟨g1, ⟨by rw [HL.out]; simp only; omega, by simp only; omega⟩, g3⟩, Fo.firsts_succ HP.out.2 HXK.out g2⟩
                    clear g1 g2 g3
                    go_wp2_with fail
                    refine (rname_any xs _ HSZ.out).mono ?_
                    rintro e w1 ⟨rfl, rfl⟩
                    rw [E1.out]
                    go_wp2_with fail
                    refine (rplace_any _ l xs _ HV1.out).mono ?_
                    rintro e w2 ⟨rfl, hb2⟩
                    rw [E2.out]
                    have HB2 : Hid (Below w.heap.size w w2) := HB1.out.trans (hb2.mono HB1.out.size)
                    have y1 := cell_step x1 hb2
                    have y2 := cell_step x2 hb2
                    have y3 := cell_step x3 hb2
                    have hs2 := HB2.out.size
                    clear hb2
                    have v1 := (cell_older (Nat.lt_of_lt_of_le HBX.out hs2) (BHf xo xg) (off + j * 4 + 1)).trans ((HB2.out.cell (p := ⟨b2, off + j * 4 + 1, none⟩) HBX.out).trans HCY.out)
                    go_wp2_with fail
                    refine (rto_any xo xg _).mono ?_
                    rintro e w3 ⟨rfl, rfl⟩
                    rw [E3.out]
                    have z1 := (cell_older (cell_lt y1) (BHf xo xg) 1).trans y1
                    have HB3 : Hid (Below w.heap.size w (w2.alloc (BHf xo xg))) := HB2.out.alloc hs2 _
                    go_wp2_with fail
                    go_quiet (fail)
                    go_wp2
                    go_roundw
                    case rel => exact ⟨j + 1 + 1, by omega, by go_num, HG, below_drewN HB3.out _⟩
                    case measure => simp [intOf]; omega
          · have E3 : Hid (decide (Ho xo xg) = false) := decide_eq_false g3
            have H : Hid (Fo.err l next = 4) := Fo.not_good HXK.out fun h => g3 h.2.2
            clear g1 g2 g3
            go_wp2_with fail
            refine (rname_any xs _ HSZ.out).mono ?_
            rintro e w1 ⟨rfl, rfl⟩
            rw [E1.out]
            go_wp2_with fail
            refine (rplace_any _ l xs _ HV1.out).mono ?_
            rintro e w2 ⟨rfl, hb2⟩
            rw [E2.out]
            have HB2 : Hid (Below w.heap.size w w2) := HB1.out.trans (hb2.mono HB1.out.size)
            have y1 := cell_step x1 hb2
            have y2 := cell_step x2 hb2
            have y3 := cell_step x3 hb2
            have hs2 := HB2.out.size
            clear hb2
            go_wp2_with fail
            refine (rto_any xo xg _).mono ?_
            rintro e w3 ⟨rfl, rfl⟩
            rw [E3.out]
            have z1 := (cell_older (cell_lt y1) (BHf xo xg) 1).trans y1
            have HB3 : Hid (Below w.heap.size w (w2.alloc (BHf xo xg))) := HB2.out.alloc hs2 _
            go_wp2
            go_ret
            rw [H.out]
            exact ⟨rfl, HB3.out⟩
        · obtain ⟨p, hp⟩ : ∃ p, Fo.at' (Fo.called xs) l = p := ⟨_, rfl⟩
          have E2 : Hid (Fo.at' (Fo.called xs) l = p) := hp
          have hne : ¬ p = (k : Int) := by rw [← hp]; exact g2
          have H : Hid (Fo.err l next = 4) := Fo.err_no fun h => g2 (Fo.first_of_apart h.2.2 HXK.out)
          clear g1 g2 hp
          go_wp2_with fail
          refine (rname_any xs _ HSZ.out).mono ?_
          rintro e w1 ⟨rfl, rfl⟩
          rw [E1.out]
          go_wp2_with fail
          refine (rplace_any _ l xs _ HV1.out).mono ?_
          rintro e w2 ⟨rfl, hb2⟩
          rw [E2.out]
          have HB2 : Hid (Below w.heap.size w w2) := HB1.out.trans (hb2.mono HB1.out.size)
          have y1 := cell_step x1 hb2
          have y2 := cell_step x2 hb2
          have y3 := cell_step x3 hb2
          have hs2 := HB2.out.size
          clear hb2
          go_wp2
          go_ret
          rw [H.out]
          exact ⟨rfl, HB2.out⟩
      · have E1 : Hid (Nm.err xs = 409) := Nm.err_no g1
        have H : Hid (Fo.err l next = 4) := Fo.not_good HXK.out fun h => g1 h.1
        clear g1
        go_wp2_with fail
        refine (rname_any xs _ HSZ.out).mono ?_
        rintro e w1 ⟨rfl, rfl⟩
        rw [E1.out]
        go_wp2
        go_ret
        rw [H.out]
        exact ⟨rfl, HB1.out⟩
    · obtain rfl : k = n := by omega
      have HA : Hid (Fo.err l next = 0) := Fo.err_ok ⟨H1.out, by rw [HN.out]; exact HP.out.1, Fo.apart_of_firsts (by rw [HN.out]; exact HP.out.2)⟩
      go_wp2
      go_ret
      rw [HA.out]
      exact ⟨rfl, HB.out⟩
end Go.Proofs.YtacghcoikekfeaaGreat
