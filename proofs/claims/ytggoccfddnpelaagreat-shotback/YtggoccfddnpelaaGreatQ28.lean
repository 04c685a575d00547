/- ZLg, ZLb, OpenT, OpenS, Law, ZOpS, as one. -/
import Derived.SizedLaws
import Derived.ChangeMaps5
import Derived.Test.YtggoccfddnpelaaGreatQ27
namespace Go.Proofs.YtggoccfddnpelaaGreat
open Go.ChangeShapes Go.WideShapes Go.ChangeAt Go.RowKit Go.Deep It
set_option maxRecDepth 100000
theorem lrun_cells {w : World} {ao : Option Addr} {cap : Nat} {l : List (Int × ByteArray)} {S : Nat → Prop} (h : At ER S w (.slice ao l.length cap) l) {k : Nat} {r : Int × ByteArray} (hk : l[k]? = some r) : ∃ b off, ao = some ⟨b, off, none⟩ ∧ b < w.heap.size ∧ w.cell? ⟨b, off + k * 2, none⟩ = some (.int .i64 r.1) ∧ w.cell? ⟨b, off + k * 2 + 1, none⟩ = some (.string r.2) := by
  obtain ⟨ao', cap', he, -, hx⟩ := h.open
  injection he with h1 h2 h3
  subst h1
  obtain ⟨b, off, hb, -, hB, hc⟩ := hx k r hk
  exact ⟨b, off, hb, hB, hc 0 _ rfl, hc 1 _ rfl⟩
/-- A number, but for what Go's int can't hold. -/
def Cg (q : Int) (n : Nat) : Prop := (-9223372036854775808 ≤ q ∧ q ≤ 9223372036854775807) ∧ ∃ z : Int, q = (n : Int) + z * 18446744073709551616
theorem Cg.add {q : Int} {n : Nat} (h : Cg q n) (m : Nat) : Cg (wrap64 (q + (m : Int))) (n + m) := by
  obtain ⟨h1, z, h2⟩ := h
  unfold wrap64
  exact ⟨by omega, z - (q + (m : Int) + 9223372036854775808) / 18446744073709551616, by omega⟩
theorem Cg.small {q : Int} {n : Nat} (h : Cg q n) (hn : n ≤ 562949953421312) : q = (n : Int) := by
  obtain ⟨⟨h1, h2⟩, z, h3⟩ := h
  omega
theorem Sh.wts_take {L : List Ino} {k : Nat} {x : Ino} (h : L[k]? = some x) : Sh.wts (L.take (k + 1)) = Sh.wts (L.take k) + Sh.wt x := by
  obtain ⟨hl, rfl⟩ := List.getElem?_eq_some_iff.1 h
  unfold Sh.wts
  rw [List.take_succ_eq_append_getElem hl, List.map_append, List.sum_append]
  simp
theorem Sh.tot_take {l : List (Int × ByteArray)} {k : Nat} {x : Int × ByteArray} (h : l[k]? = some x) : Nf.tot (l.take (k + 1)) = Nf.tot (l.take k) + x.2.size := by
  obtain ⟨hl, rfl⟩ := List.getElem?_eq_some_iff.1 h
  unfold Nf.tot Bs.Bl.total
  rw [List.take_succ_eq_append_getElem hl, List.map_append, List.sum_append]
  simp
set_option maxHeartbeats 4000000 in
theorem shlarge_any {S : Nat → Prop} (vi : Value) (op : Option Addr) (on oc : Nat) (sp : Option Addr) (sn sc : Nat) (dn : Int) (L : List Rw) (O : List Os.Opn) (Z : List Es.Sea) (w : World) (hv : TabAt S w vi L) (ho : O.length = on) (hz : Z.length = sn) (hom : on ≤ maxLen) (hzm : sn ≤ maxLen) :
    Calls Tryz.prog 9 #[VSt vi (.slice op on oc) (.slice sp sn sc) dn] w fun e w' => (∃ b : Bool, e = .returned (.bool b) ∧ (b = false → Sh.whole (pl L) O Z dn = true → Sh.wts (pl L) ≤ 12000)) ∧ Below w.heap.size w w' := by
  have HV : Hid (TabAt S w vi L) := hv
  have HLE : Hid (Sh.whole (pl L) O Z dn = true → Sh.wts (pl L) + on + sn ≤ 562949953421312) := fun h => by
    have := Sh.whole_wts h fun x hx => by
      obtain ⟨r, hr, rfl⟩ := List.mem_map.1 hx
      obtain ⟨-, -, -, h2, h3⟩ := hv.2 r hr
      exact ⟨h2, by omega⟩
    omega
  obtain ⟨ao, cap, rfl, hm, -⟩ := hv.open
  unfold maxLen at hm hom hzm
  obtain ⟨n, hn⟩ : ∃ n, L.length = n := ⟨_, rfl⟩
  have HN : Hid (L.length = n) := hn
  rw [hn] at hm HV ⊢
  have HC0 : Hid (Cg (wrap64 ((on : Int) + (sn : Int))) (on + sn + Sh.wts ((pl L).take 0))) := by
    have h : Cg (on : Int) on := ⟨by omega, 0, by omega⟩
    exact h.add sn
  clear hv hn ho hz
  go_enter Tryz.func9, Tryz.ntmps9
  go_wp2_with fail
  obtain ⟨W, hW⟩ : ∃ W, W = w.alloc (BSt (.slice ao n cap) (.slice op on oc) (.slice sp sn sc) dn) := ⟨_, rfl⟩
  have HBW : Hid (Below w.heap.size w W) := by show Below _ _ _; rw [hW]; exact (Below.refl _ w).alloc (Nat.le_refl _) _
  have HA : Hid (W.heap[w.heap.size]? = some (BSt (.slice ao n cap) (.slice op on oc) (.slice sp sn sc) dn)) := by show _ = _; rw [hW]; exact heap_alloc_new _ _
  have HVW : Hid (TabAt S W (.slice ao n cap) L) := HV.out.up HBW.out
  rw [← hW]
  clear hW HV
  go_loopw [3, 18] (fun g i wr => ∃ (k : Nat) (q : Int), k ≤ n ∧ i = .int .i64 k ∧ g = .int .i64 q ∧ Hid (Cg q (on + sn + Sh.wts ((pl L).take k))) ∧ Hid (Below W.heap.size W wr)) (fun _ i _ => n - (intOf i).toNat)
  case atStart => exact ⟨0, _, Nat.zero_le _, rfl, rfl, HC0.out, Below.refl _ _⟩
  case round =>
    obtain ⟨k, q, hk, rfl, rfl, HQ, HB⟩ := hrel
    have hsz := HB.out.size
    by_cases hlt : k < n
    · obtain ⟨x, hxk⟩ : ∃ x, L[k]? = some x := ⟨_, List.getElem?_eq_getElem (by rw [HN.out]; exact hlt)⟩
      obtain ⟨⟨b, off, rfl, hB, hc⟩, -, -, -⟩ := tab_eight HVW.out hxk
      have HG : Hid (Good S W x) := HVW.out.2 x (List.mem_of_getElem? hxk)
      have HW2 : Hid (Sh.wts ((pl L).take (k + 1)) = Sh.wts ((pl L).take k) + Sh.wt x.i) := Sh.wts_take (by simp [pl, hxk])
      obtain ⟨rn, hrn⟩ : ∃ r, x.rn = r := ⟨_, rfl⟩
      obtain ⟨en, hen⟩ : ∃ r, x.en = r := ⟨_, rfl⟩
      have HRN : Hid (x.i.runs.length = rn ∧ x.i.ents.length = en) := ⟨HG.out.len.1.symm.trans hrn, HG.out.len.2.symm.trans hen⟩
      have hrm : rn ≤ 5864062014805 := by have h := HG.out.2.2.2.1; have h2 := HRN.out; omega
      have HAR : Hid (At ER S W (.slice x.rp x.i.runs.length x.rc) x.i.runs) := by have h := HG.out.1; rw [HG.out.len.1] at h; exact h
      obtain ⟨c0, c1, c2, c3, c4, c5, c6, c7⟩ := hc.below HB.out hB
      have hlt' : (k : Int) < (n : Int) := by omega
      rw [hrn] at c5
      rw [hen] at c6
      obtain ⟨V, hV⟩ : ∃ V, V = wr.alloc (.cells #[.int .i64 x.i.gen, .int .i64 x.i.kind, .int .i64 x.i.links, .int .i64 x.i.size, .int .i64 x.i.stamp, .slice x.rp rn x.rc, .slice x.ep en x.ec, .int .i64 x.i.next] 52) := ⟨_, rfl⟩
      have HBV : Hid (Below W.heap.size W V) := by show Below _ _ _; rw [hV]; exact HB.out.alloc hsz _
      have HQ2 : Hid (Cg (wrap64 (wrap64 (q + (en : Int)) + (rn : Int))) (on + sn + Sh.wts ((pl L).take k) + en + rn)) := (HQ.out.add en).add rn
      clear hc hxk hrn hen HG HQ
      go_wp2_with fail
      rw [← hV]
      clear hV c0 c1 c2 c3 c4 c5 c6 c7
      go_loopw [3, 34] (fun g i vr => ∃ (j : Nat) (p : Int), j ≤ rn ∧ i = .int .i64 j ∧ g = .int .i64 p ∧ Hid (Cg p (on + sn + Sh.wts ((pl L).take k) + en + rn + Nf.tot (x.i.runs.take j))) ∧ Hid (Below W.heap.size W vr)) (fun _ i _ => rn - (intOf i).toNat)
      case atStart => exact ⟨0, _, Nat.zero_le _, rfl, rfl, HQ2.out, HBV.out⟩
      case round =>
        obtain ⟨j, p, hj, rfl, rfl, HPQ, HBR⟩ := hrel
        have hsr := HBR.out.size
        by_cases hjl : j < rn
        · obtain ⟨r, hr⟩ : ∃ r, x.i.runs[j]? = some r := ⟨_, List.getElem?_eq_getElem (by rw [HRN.out.1]; exact hjl)⟩
          obtain ⟨b2, off2, hrp, hB2, d0, d1⟩ := lrun_cells HAR.out hr
          rw [hrp]
          rw [← HBR.out.cell (p := ⟨b2, off2 + j * 2, none⟩) hB2] at d0
          rw [← HBR.out.cell (p := ⟨b2, off2 + j * 2 + 1, none⟩) hB2] at d1
          have hjl' : (j : Int) < (rn : Int) := by omega
          have HQ3 : Hid (Cg (wrap64 (p + (r.2.size : Int))) (on + sn + Sh.wts ((pl L).take k) + en + rn + Nf.tot (x.i.runs.take (j + 1)))) := by
            show Cg _ _
            rw [Sh.tot_take hr, ← Nat.add_assoc]
            exact HPQ.out.add _
          clear hr hrp HPQ
          go_wp2
          go_roundw
          case rel => exact ⟨j + 1, _, by omega, by go_num, rfl, HQ3.out, HBR.out.alloc hsr _⟩
          case measure => simp [intOf]; omega
        · obtain rfl : j = rn := by omega
          have HQ4 : Hid (Cg p (on + sn + Sh.wts ((pl L).take (k + 1)))) := by
            show Cg _ _
            rw [HW2.out]
            have e : x.i.runs.take j = x.i.runs := List.take_of_length_le (by rw [HRN.out.1]; exact Nat.le_refl _)
            have h := HPQ.out
            rw [e] at h
            unfold Sh.wt
            rw [HRN.out.1, HRN.out.2]
            have e2 : on + sn + (Sh.wts ((pl L).take k) + (en + j + Nf.tot x.i.runs)) = on + sn + Sh.wts ((pl L).take k) + en + j + Nf.tot x.i.runs := by omega
            rw [e2]
            exact h
          go_wp2
          go_roundw
          case rel => exact ⟨k + 1, _, by omega, by go_num, rfl, HQ4.out, HBR.out⟩
          case measure => simp [intOf]; omega
    · obtain rfl : k = n := by omega
      have HQ5 : Hid (Sh.whole (pl L) O Z dn = true → q ≤ 12000 → Sh.wts (pl L) ≤ 12000) := fun h h1 => by
        have e : (pl L).take k = pl L := List.take_of_length_le (by rw [← HN.out]; simp [pl])
        have h2 := HQ.out
        rw [e] at h2
        have h3 := HLE.out h
        have h4 := h2.small (by omega)
        omega
      obtain ⟨t0, t1, t2, t3⟩ := st_of ((HB.out.block _ (Array.getElem?_eq_some_iff.1 HA.out).1).trans HA.out)
      have HF : Hid (Below w.heap.size w wr) := HBW.out.trans (HB.out.mono HBW.out.size)
      by_cases h12 : 12000 < q
      · have hb12 : decide (12000 < q) = true := by simpa using h12
        go_wp2
        all_goals
          go_ret
          exact ⟨by first | exact .inr rfl | exact ⟨_, rfl, fun h => by simp at h⟩, HF.out⟩
      · have hb12 : decide (12000 < q) = false := by simpa using h12
        by_cases h100 : (100 : Int) < (k : Int)
        all_goals
          go_wp2
          all_goals
            go_ret
            exact ⟨by first | exact .inr rfl | exact .inl ⟨rfl, fun hw => HQ5.out hw (by omega)⟩ | exact ⟨_, rfl, fun _ hw => HQ5.out hw (by omega)⟩, HF.out⟩
/-- What is told of bytes that are read: no state, or one whose bytes they are. -/
theorem Sh.unp_two (b : ByteArray) (h : b.size ≤ 30000) : (Sh.unpE b = 4 ∧ Sh.unpS b = Sh.st0) ∨ (Sh.unpE b = 0 ∧ Sh.pkE (Sh.unpS b).L (Sh.unpS b).O (Sh.unpS b).Z (Sh.unpS b).dn = 0 ∧ Sh.pkO (Sh.unpS b).L (Sh.unpS b).O (Sh.unpS b).Z (Sh.unpS b).dn = b ∧ Sh.Sm (Sh.unpS b).L) := by
  cases hq : Sh.isS (Sh.rdS b) b with
  | false => obtain ⟨h1, h2⟩ := Sh.unp_no (.inl rfl) hq; exact .inl ⟨h2, h1⟩
  | true =>
    obtain ⟨h1, h2⟩ := Sh.unp_yes (.inl rfl) hq
    obtain ⟨h3, h4⟩ := (Sh.isS_iff _ _).1 hq
    rw [h1]
    exact .inr ⟨h2, h3, h4, Sh.rdS_sm h⟩
theorem Sh.pk_two {L : List Ino} {O : List Os.Opn} {Z : List Es.Sea} {dn : Int} (hs : Sh.whole L O Z dn = true → Sh.wts L ≤ 12000) (h : Sh.pkE L O Z dn = 0) : Sh.unpS (Sh.pkO L O Z dn) = ⟨L, O, Z, dn⟩ ∧ Sh.unpE (Sh.pkO L O Z dn) = 0 ∧ Sh.Sm (Sh.rdS (Sh.pkO L O Z dn)).L ∧ (Sh.pkO L O Z dn).size ≤ 1048576 := by
  obtain ⟨h1, h2, h3⟩ := Sh.back_is h
  refine ⟨h1, h2, ?_, Sh.pkO_le hs⟩
  rw [h3]
  exact Sh.sm_of (hs (Sh.pk_back h).1)
set_option maxHeartbeats 8000000 in
theorem shBack_any {S : Nat → Prop} (vi vo : Value) (sp : Option Addr) (sn sc : Nat) (dn : Int) (L : List Rw) (O : List Os.Opn) (Z : List Es.Sea) (b : ByteArray) (w : World) (hv : TabAt S w vi L) (hok : Sp.okN L) (ho : AtW Os.EO w vo O) (hz : AtW Es.ES w (.slice sp sn sc) Z) :
    Calls Tryz.prog 4 #[VSt vi vo (.slice sp sn sc) dn, .string b] w fun e w' => e = .returned (.bool true) ∧ Below w.heap.size w w' := by
  obtain ⟨ia, ic, hi, -, -⟩ := hv.open
  obtain ⟨oa, oc, hoo, hom, -⟩ := ho.open
  obtain ⟨za, zc, hzz, hzm, -⟩ := hz.open
  injection hzz with hz1 hz2 hz3
  subst hz1 hz3
  obtain ⟨n, hn⟩ : ∃ n, L.length = n := ⟨_, rfl⟩
  obtain ⟨on, hon⟩ : ∃ n, O.length = n := ⟨_, rfl⟩
  rw [hn] at hi
  rw [hon] at hoo hom
  rw [← hz2] at hzm
  subst hi hoo
  obtain ⟨W, hW⟩ : ∃ V, V = w.alloc (BSt (.slice ia n ic) (.slice oa on oc) (.slice sp sn sc) dn) := ⟨_, rfl⟩
  have HBW : Hid (Below w.heap.size w W) := by show Below _ _ _; rw [hW]; exact (Below.refl _ w).alloc (Nat.le_refl _) _
  have HXW : Hid (W.heap[w.heap.size]? = some (BSt (.slice ia n ic) (.slice oa on oc) (.slice sp sn sc) dn)) := by show _ = _; rw [hW]; exact heap_alloc_new _ _
  have HVW : Hid (TabAt S W (.slice ia n ic) L) := hv.up HBW.out
  have HOW : Hid (AtW Os.EO W (.slice oa on oc) O) := ho.up HBW.out
  have HZW : Hid (AtW Es.ES W (.slice sp sn sc) Z) := hz.up HBW.out
  have HL : Hid (∀ V, Below W.heap.size W V → Calls Tryz.prog 9 #[VSt (.slice ia n ic) (.slice oa on oc) (.slice sp sn sc) dn] V fun e w' => (∃ b : Bool, e = .returned (.bool b) ∧ (b = false → Sh.whole (pl L) O Z dn = true → Sh.wts (pl L) ≤ 12000)) ∧ Below V.heap.size V w') := fun V h => shlarge_any _ _ _ _ _ _ _ _ L O Z V (HVW.out.up h) hon hz2.symm hom hzm
  have HOK : Hid (Sp.okN L) := hok
  clear hv hok ho hz hn hon hz2 hom hzm
  obtain ⟨x0, x1, x2, x3⟩ := st_of HXW.out
  rw [hW] at x0 x1 x2 x3
  go_enter Tryz.func4, Tryz.ntmps4
  go_wp2_with fail
  rw [← hW]
  clear hW
  refine (HL.out _ (Below.refl _ _)).mono ?_
  rintro e w1 ⟨⟨bl, rfl, hbl⟩, hb1⟩
  have HBL : Hid (bl = false → Sh.whole (pl L) O Z dn = true → Sh.wts (pl L) ≤ 12000) := hbl
  have HW1 : Hid (Below W.heap.size W w1) := hb1
  clear hbl hb1 x0 x1 x2 x3 HL
  cases bl with
  | true =>
    go_wp2_with fail
    refine (empty_any _).mono ?_
    rintro e w4 ⟨rfl, hb4⟩
    go_wp2
    go_ret
    exact ⟨rfl, HBW.out.trans ((HW1.out.trans (hb4.mono HW1.out.size)).mono HBW.out.size)⟩
  | false =>
  by_cases hb : b.size ≤ 30000
  case neg =>
    have hgt : (30000 : Int) < (b.size : Int) := by omega
    clear hb
    go_wp2_with fail
    refine (empty_any _).mono ?_
    rintro e w4 ⟨rfl, hb4⟩
    go_wp2
    go_ret
    exact ⟨rfl, HBW.out.trans ((HW1.out.trans (hb4.mono HW1.out.size)).mono HBW.out.size)⟩
  case pos =>
  have hgt : ¬ (30000 : Int) < (b.size : Int) := by omega
  have HWT : Hid (Sh.whole (pl L) O Z dn = true → Sh.wts (pl L) ≤ 12000) := HBL.out rfl
  have HU : Hid (∀ V, Calls Tryz.prog 6 #[.string b] V fun e w' => ∃ L vi vo vz, e = .returned (.tuple #[.agg #[vi, vo, vz, .int .i64 (Sh.unpS b).dn], .int .i64 (Sh.unpE b)]) ∧ US V.heap.size (Sh.unpS b) L vi vo vz w' ∧ Below V.heap.size V w') := fun V => shunp_any b V (by omega) (Sh.rdS_sm hb)
  have HUO : Hid (∀ y ∈ (Sh.unpS b).L, okI y ∧ ∀ e ∈ y.ents, e.1.size ≤ maxLen) := Sh.unp_okS b
  have HTWO : Hid _ := Sh.unp_two b hb
  generalize Sh.unpS b = x at HU HUO HTWO
  generalize Sh.unpE b = q at HU HTWO
  obtain ⟨xL, xO, xZ, xd⟩ := x
  clear hb HBL
  have HX1 : Hid (w1.heap[w.heap.size]? = some (BSt (.slice ia n ic) (.slice oa on oc) (.slice sp sn sc) dn)) := (HW1.out.block _ (Array.getElem?_eq_some_iff.1 HXW.out).1).trans HXW.out
  obtain ⟨x0, x1, x2, x3⟩ := st_of HX1.out
  go_wp2_with fail
  refine (shpack_any _ _ _ _ L O Z _ (HVW.out.up HW1.out) HOK.out (HOW.out.up HW1.out) (HZW.out.up HW1.out) (fun h => Sh.sm_of (HWT.out h))).mono ?_
  rintro e w2 ⟨rfl, hb2⟩
  have HW2 : Hid (Below W.heap.size W w2) := HW1.out.trans (hb2.mono HW1.out.size)
  have HPK : Hid _ := @Sh.pk_two _ _ _ _ HWT.out
  generalize Sh.pkO (pl L) O Z dn = po at HPK ⊢
  generalize Sh.pkE (pl L) O Z dn = pe at HPK ⊢
  clear hb2 x0 x1 x2 x3 HX1
  by_cases hpe : pe = 0
  focus
    subst hpe
    obtain ⟨h1, h2, h3, h4⟩ := HPK.out rfl
    have HQ : Hid (∀ V, Calls Tryz.prog 6 #[.string po] V fun e w' => ∃ L' vi vo vz, e = .returned (.tuple #[.agg #[vi, vo, vz, .int .i64 dn], .int .i64 0]) ∧ US V.heap.size ⟨pl L, O, Z, dn⟩ L' vi vo vz w' ∧ Below V.heap.size V w') := fun V => by
      have h := shunp_any po V h4 h3
      rwa [h1, h2] at h
    clear h1 h2 h3 h4 HPK
    go_wp2_with fail
    refine (HQ.out _).mono ?_
    rintro e w3 ⟨L1, ti, tq, tz, rfl, hu1, hb3⟩
    obtain ⟨⟨ta, tm, tc, rfl⟩, ⟨pa, pm, pc, rfl⟩, ra, rm, rc, rfl⟩ := hu1.slices
    obtain ⟨W3, hW3⟩ : ∃ V, V = w3.alloc (BSt (.slice ta tm tc) (.slice pa pm pc) (.slice ra rm rc) dn) := ⟨_, rfl⟩
    obtain ⟨A3, hA3⟩ : ∃ n, n = w3.heap.size := ⟨_, rfl⟩
    have HS3 : Hid (US w2.heap.size ⟨pl L, O, Z, dn⟩ L1 (.slice ta tm tc) (.slice pa pm pc) (.slice ra rm rc) W3) := by show US _ _ _ _ _ _ _; rw [hW3]; exact hu1.up ((Below.refl _ _).alloc (Nat.le_refl _) _)
    have HX3 : Hid (W3.heap[A3]? = some (BSt (.slice ta tm tc) (.slice pa pm pc) (.slice ra rm rc) dn)) := by show _ = _; rw [hW3, hA3]; exact heap_alloc_new _ _
    have HW3 : Hid (Below W.heap.size W W3) := by show Below _ _ _; rw [hW3]; exact (HW2.out.trans (hb3.mono HW2.out.size)).alloc (Nat.le_trans HW2.out.size hb3.size) _
    have HY3 : Hid (W3.heap[w.heap.size]? = some (BSt (.slice ia n ic) (.slice oa on oc) (.slice sp sn sc) dn)) := (HW3.out.block _ (Array.getElem?_eq_some_iff.1 HXW.out).1).trans HXW.out
    clear hu1 hb3 HQ
    obtain ⟨x0, x1, x2, x3⟩ := st_of HX3.out
    obtain ⟨y0, y1, y2, y3⟩ := st_of HY3.out
    rw [hW3] at x0 x1 x2 x3 y0 y1 y2 y3
    rw [hA3] at x0 x1 x2 x3
    have HTB : Hid (TabW W3 (.slice ta tm tc) L1) := ⟨HS3.out.rowI.at.wide, fun r hr => by
      have hm : r.i ∈ pl L := by have := HS3.out.mem hr; exact this
      obtain ⟨r', hr', he⟩ := List.mem_map.1 hm
      refine ⟨(HS3.out.good r hr).1.at.wide, (HS3.out.good r hr).2.at.wide, ?_⟩
      rw [← he]
      exact (HVW.out.2 r' hr').2.2⟩
    go_wp2_with fail
    rw [← hW3]
    clear hW3 hA3
    refine (state_same _ _ _ _ _ _ dn L1 L O Z _ HTB.out (HVW.out.up HW3.out) (by rw [HS3.out.eq]) HS3.out.opens (HOW.out.up HW3.out) HS3.out.seats (HZW.out.up HW3.out)).mono ?_
    rintro e w4 ⟨rfl, hb4⟩
    have HW4 : Hid (Below W.heap.size W w4) := HW3.out.trans (hb4.mono HW3.out.size)
    clear hb4 x0 x1 x2 x3 y0 y1 y2 y3 HTB HS3 HX3 HY3 HW3 HW2
    go_wp2_with fail
  rotate_left
  focus
    have t0 : (pe == 0) = false := by simp [hpe]
    obtain ⟨w4, hw4⟩ : ∃ V, V = w2 := ⟨_, rfl⟩
    have HW4 : Hid (Below W.heap.size W w4) := by show Below _ _ _; rw [hw4]; exact HW2.out
    clear HW2 HPK
    go_wp2_with fail
    rw [← hw4]
    clear hw4 hpe
  all_goals
    refine (HU.out _).mono ?_
    rintro e w5 ⟨L5, ti, tq, tz, rfl, hu5, hb5⟩
    obtain ⟨⟨ta, tm, tc, rfl⟩, ⟨pa, pm, pc, rfl⟩, ra, rm, rc, rfl⟩ := hu5.slices
    obtain ⟨W5, hW5⟩ : ∃ V, V = w5.alloc (BSt (.slice ta tm tc) (.slice pa pm pc) (.slice ra rm rc) xd) := ⟨_, rfl⟩
    obtain ⟨A5, hA5⟩ : ∃ n, n = w5.heap.size := ⟨_, rfl⟩
    have HS5 : Hid (US w4.heap.size ⟨xL, xO, xZ, xd⟩ L5 (.slice ta tm tc) (.slice pa pm pc) (.slice ra rm rc) W5) := by show US _ _ _ _ _ _ _; rw [hW5]; exact hu5.up ((Below.refl _ _).alloc (Nat.le_refl _) _)
    have HX5 : Hid (W5.heap[A5]? = some (BSt (.slice ta tm tc) (.slice pa pm pc) (.slice ra rm rc) xd)) := by show _ = _; rw [hW5, hA5]; exact heap_alloc_new _ _
    have HW5 : Hid (Below W.heap.size W W5) := by show Below _ _ _; rw [hW5]; exact (HW4.out.trans (hb5.mono HW4.out.size)).alloc (Nat.le_trans HW4.out.size hb5.size) _
    have HB5 : Hid (Below w.heap.size w W5) := HBW.out.trans (HW5.out.mono HBW.out.size)
    clear hu5 hb5 HU HW4 HW5
    obtain ⟨x0, x1, x2, x3⟩ := st_of HX5.out
    rw [hW5, hA5] at x0 x1 x2 x3
    rcases HTWO.out with ⟨hq, hx⟩ | ⟨hq, h1, h2, h3⟩
    · subst hq
      injection hx with g1 g2 g3 g4
      subst g1 g2 g3 g4
      go_wp2_with fail
      rw [← hW5]
      clear hW5 hA5
      refine (state_same (T := fun _ => True) (T2 := fun _ => True) (T3 := fun _ => True) _ _ _ _ _ _ 0 L5 [] [] [] _ (HS5.out.tab HUO.out) ⟨At.nil, fun r hr => by cases hr⟩ (by rw [HS5.out.eq]; rfl) HS5.out.opens At.nil HS5.out.seats At.nil).mono ?_
      rintro e w6 ⟨rfl, hb6⟩
      have HB6 : Hid (Below w.heap.size w w6) := HB5.out.trans (hb6.mono HB5.out.size)
      clear hb6 x0 x1 x2 x3
      go_wp2_with fail
      refine (empty_any _).mono ?_
      rintro e w7 ⟨rfl, hb7⟩
      go_wp2
      go_ret
      exact ⟨rfl, HB6.out.trans (hb7.mono HB6.out.size)⟩
    · subst hq
      have HE : Hid _ := And.intro h1 h2
      have HSM : Hid _ := h3
      clear h1 h2 h3
      go_wp2_with fail
      rw [← hW5]
      clear hW5 hA5
      refine (shpack_any _ _ _ _ L5 xO xZ _ (HS5.out.tab HUO.out) (HS5.out.okN HUO.out) HS5.out.opens HS5.out.seats (fun _ => by rw [HS5.out.eq]; exact HSM.out)).mono ?_
      rintro e w6 ⟨rfl, hb6⟩
      rw [HS5.out.eq, HE.out.1, HE.out.2]
      have HB6 : Hid (Below w.heap.size w w6) := HB5.out.trans (hb6.mono HB5.out.size)
      have t1 : (b.toList == b.toList) = true := beq_self_eq_true _
      clear hb6 x0 x1 x2 x3 HE
      go_wp2_with fail
      refine (empty_any _).mono ?_
      rintro e w7 ⟨rfl, hb7⟩
      go_wp2
      go_ret
      exact ⟨rfl, HB6.out.trans (hb7.mono HB6.out.size)⟩
/-- A slice that came in, element by element. -/
theorem open_row {α : Type} [Inhabited α] (E : Enc α) {H : Type} {enc : TypeId × Value → H} {P : Program} {w : World} {t e : TypeId} {fuel : Nat} {v : Value} {dx : DataW H × List MemPlace} (ht : P.underlying t = some (.slice e)) (ce : P.cellsOf e = E.sz) (hsz : 0 < E.sz) {Q : α → DataW H → Prop}
    (elem : ∀ n cs d pl, cs.length = E.sz → DataW.trod enc P w 0 (fun _ => true) true n e cs = some (d, pl) → ∃ x, cs = E.cells x ∧ Q x d)
    (hf : DataW.trod enc P w 0 (fun _ => true) true fuel t [v] = some dx) :
    ∃ l : List α, AtW E w v l ∧ ((dx.1 = .nil ∧ l = []) ∨ ∃ es sp : List (DataW H), dx.1 = .slice es sp ∧ es.length = l.length ∧ ∀ (i : Nat) (x : α), l[i]? = some x → ∃ d, es[i]? = some d ∧ Q x d) := by
  rcases open_slice ht hf with ⟨hcs, hx⟩ | ⟨a, len, cap, m, n, D, Pl, hcs, hb, hl, hm, hmm, hd, hx⟩
  · simp at hcs
    subst hcs
    exact ⟨[], .inl ⟨_, _, rfl, rfl⟩, .inl ⟨by rw [hx], rfl⟩⟩
  · simp at hcs
    subst hcs
    have hlm : len ≤ m := by rw [hmm]; split <;> omega
    have each : ∀ i, i < len → ∃ x : α, (∀ j u, (E.cells x)[j]? = some u → w.cell? ((a.add (i * E.sz)).add j) = some u) ∧ Q x (D i) := by
      intro i hi
      obtain ⟨cs', h1, h2⟩ := hx i (by omega)
      rw [ce] at h1
      obtain ⟨_, hlen, hcell⟩ := World.cells?_some h1
      obtain ⟨x, rfl, hq⟩ := elem _ _ _ _ hlen h2
      refine ⟨x, fun j u hj => ?_, hq⟩
      have hj8 : j < E.sz := by have := (List.getElem?_eq_some_iff.1 hj).1; rwa [E.len] at this
      have := hcell j hj8
      rw [this]
      exact hj
    obtain ⟨q, hq⟩ := choose_lt each
    have hlr : ((List.range len).map q).length = len := by simp
    refine ⟨(List.range len).map q, ?_, .inr ⟨_, _, by rw [hd], by simp, fun i x hi => ?_⟩⟩
    · by_cases hp : 0 < len
      · obtain ⟨b, off, spot⟩ := a
        obtain ⟨u0, hu0⟩ : ∃ u, (E.cells (q 0))[0]? = some u := ⟨_, List.getElem?_eq_getElem (by rw [E.len]; exact hsz)⟩
        have hc0 := (hq 0 hp).1 0 u0 hu0
        have hspot : spot = none := by simpa [Addr.add] using World.cell?_spot hc0
        subst hspot
        rw [WideShapes.add_plain, WideShapes.add_plain] at hc0
        have key : ∀ i, i < len → ∀ j u, (E.cells (q i))[j]? = some u → w.cell? ⟨b, off + (i * E.sz + j), none⟩ = some u := fun i hi j u hj => by
          have h0 := (hq i hi).1 j u hj
          rw [WideShapes.add_plain, WideShapes.add_plain, Nat.add_assoc] at h0
          exact h0
        refine .inr ⟨b, off, cap, by rw [hlr], trivial, World.block_lt_of_cell? _ _ hc0, by omega, by omega, hm, fun j u hj => ?_⟩
        have hlt : j < (E.flat ((List.range len).map q)).length := (List.getElem?_eq_some_iff.1 hj).1
        rw [E.flat_length, hlr] at hlt
        have hi : j / E.sz < len := (Nat.div_lt_iff_lt_mul hsz).2 hlt
        have hgi : ((List.range len).map q)[j / E.sz]? = some (q (j / E.sz)) := by simp [hi]
        have hmod : j % E.sz < E.sz := Nat.mod_lt _ hsz
        obtain ⟨u1, hu1⟩ : ∃ u, (E.cells (q (j / E.sz)))[j % E.sz]? = some u := ⟨_, List.getElem?_eq_getElem (by rw [E.len]; exact hmod)⟩
        have hfl := E.flat_at _ _ _ hgi _ _ hu1
        have hdm : j / E.sz * E.sz + j % E.sz = j := by rw [Nat.mul_comm]; exact Nat.div_add_mod _ _
        have h3 := key _ hi _ _ hu1
        rw [hdm] at hfl h3
        rw [hfl] at hj
        cases hj
        exact h3
      · have : len = 0 := by omega
        subst this
        exact .inl ⟨_, _, rfl, rfl⟩
    · have hi' : i < len := by have := (List.getElem?_eq_some_iff.1 hi).1; rwa [hlr] at this
      have hxq : x = q i := by simpa [hi'] using hi.symm
      subst hxq
      exact ⟨D i, by simp [hi'], (hq i hi').2⟩
def len2 {H : Type} (y : DataW H) (n : Nat) : Prop := n = 0 ∨ ∃ es sp, y = .slice es sp ∧ es.length = n
theorem open_runs {H : Type} {enc : TypeId × Value → H} {w : World} {fuel : Nat} {v : Value} {dx : DataW H × List MemPlace} (hf : DataW.trod enc Tryz.prog w 0 (fun _ => true) true fuel 49 [v] = some dx) : ∃ l, AtW ER w v l ∧ okFields l ∧ len2 dx.1 l.length := by
  have : Inhabited (Int × ByteArray) := ⟨(0, .empty)⟩
  obtain ⟨l, h1, h2⟩ := open_row ER Tryz.underlying49 (by kernel_rfl) (by decide) (Q := fun x _ => (-9223372036854775808 ≤ x.1 ∧ x.1 ≤ 9223372036854775807) ∧ x.2.size ≤ maxLen) (fun n cs d pl hl h => by
    obtain ⟨y0, y1, m, _, _, g0, g1⟩ := trod_struct2 Tryz.underlying67 h
    match cs, hl with
    | [c0, c1], _ =>
      rw [show Tryz.prog.cellsOf 3 = 1 from by kernel_rfl] at g0
      rw [show Tryz.prog.cellsOf 9 = 1 from by kernel_rfl] at g1
      simp at g0 g1
      obtain ⟨a, e0, _, wf⟩ := DataW.trod_int Tryz.underlying3 g0
      obtain ⟨s, e1, _, hs⟩ := DataW.trod_string Tryz.underlying9 g1
      simp only [List.cons.injEq, and_true] at e0 e1
      subst e0
      subst e1
      refine ⟨(a, s), rfl, ?_, hs⟩
      simp [Lit.wf, IntKind.min, IntKind.max, IntKind.signed, IntKind.bits] at wf
      exact ⟨by omega, by omega⟩) hf
  refine ⟨l, h1, fun x hx => ?_, ?_⟩
  · rcases h2 with ⟨_, rfl⟩ | ⟨es, sp, _, _, hq⟩
    · cases hx
    · obtain ⟨i, hi⟩ := List.mem_iff_getElem?.1 hx
      obtain ⟨d, _, hd⟩ := hq i x hi
      exact hd
  · rcases h2 with ⟨_, rfl⟩ | ⟨es, sp, he, hl, _⟩
    · exact .inl rfl
    · exact .inr ⟨es, sp, he, hl⟩
theorem weights_mem_all {H : Type} {P : Program} {e : TypeId} {n : Nat} : ∀ {ds : List (DataW H)} {d : DataW H}, d ∈ ds → n ∈ d.weights P e → n ∈ DataW.weightsAll P e ds
  | d0 :: ds, d, hd, hn => by
    simp only [DataW.weightsAll, List.mem_append]
    rcases List.mem_cons.1 hd with rfl | hd
    · exact .inl hn
    · exact .inr (weights_mem_all hd hn)
  | [], _, hd, _ => by cases hd
theorem reach_le : reachBytes ≤ 140737488351232 := by decide
theorem sopen_ents {H : Type} {enc : TypeId × Value → H} {w : World} {fuel : Nat} {v : Value} {dx : DataW H × List MemPlace} (hf : DataW.trod enc Tryz.prog w 0 (fun _ => true) true fuel 50 [v] = some dx) : ∃ l, AtW EE w v l ∧ (∀ x ∈ l, x.1.size ≤ maxLen) ∧ len2 dx.1 l.length := by
  have : Inhabited (ByteArray × Int × Int × Int) := ⟨(.empty, 0, 0, 0)⟩
  obtain ⟨l, h1, h2⟩ := open_row EE Tryz.underlying50 (by kernel_rfl) (by decide) (Q := fun x _ => x.1.size ≤ maxLen) (fun n cs d pl hl h => by
    obtain ⟨xs, m, _, _, _, hxl, hg⟩ := DataW.trod_struct Tryz.underlying91 h
    match cs, hl with
    | [c0, c1, c2, c3], _ =>
      have g0 := hg 0 _ rfl
      have g1 := hg 1 _ rfl
      have g2 := hg 2 _ rfl
      have hx3 : xs.length = 3 := by rw [hxl]; rfl
      match xs, hx3 with
      | [y0, y1, y2], _ =>
        simp only [List.getElem_toArray, List.getElem_cons_zero, List.getElem_cons_succ] at g0 g1 g2
        simp only [show Tryz.prog.cellsOf 9 = 1 from by kernel_rfl, show Tryz.prog.cellsOf 3 = 1 from by kernel_rfl, show Tryz.prog.cellsOf 55 = 2 from by kernel_rfl] at g0 g1 g2
        simp at g0 g1 g2
        obtain ⟨z0, z1, m2, _, _, k0, k1⟩ := trod_struct2 Tryz.underlying55 g2
        simp only [show Tryz.prog.cellsOf 3 = 1 from by kernel_rfl] at k0 k1
        simp at k0 k1
        obtain ⟨s, e0, _, hs0⟩ := DataW.trod_string Tryz.underlying9 g0
        obtain ⟨a, e1, _, _⟩ := DataW.trod_int Tryz.underlying3 g1
        obtain ⟨b, e2, _, _⟩ := DataW.trod_int Tryz.underlying3 k0
        obtain ⟨c, e3, _, _⟩ := DataW.trod_int Tryz.underlying3 k1
        simp only [List.cons.injEq, and_true] at e0 e1 e2 e3
        subst e0
        subst e1
        subst e2
        subst e3
        exact ⟨(s, a, b, c), rfl, hs0⟩) hf
  refine ⟨l, h1, fun x hx => ?_, ?_⟩
  · rcases h2 with ⟨_, rfl⟩ | ⟨es, sp, he, _, hq⟩
    · cases hx
    · obtain ⟨i, hi⟩ := List.mem_iff_getElem?.1 hx
      obtain ⟨d, _, hd⟩ := hq i x hi
      exact hd
  rcases h2 with ⟨_, rfl⟩ | ⟨es, sp, he, hl, _⟩
  · exact .inl rfl
  · exact .inr ⟨es, sp, he, hl⟩
/-- What an inode that came in is, and how it reads. -/
def SInoRead {H : Type} (w : World) (x : Rw) (d : DataW H) : Prop := AtW ER w (.slice x.rp x.rn x.rc) x.i.runs ∧ okFields x.i.runs ∧ AtW EE w (.slice x.ep x.en x.ec) x.i.ents ∧ (∀ e ∈ x.i.ents, e.1.size ≤ maxLen) ∧ ∃ y0 y1 y2 y3 y4, d = .agg [y0, y1, y2, y3, y4] ∧ len2 y2 x.i.runs.length ∧ len2 y3 x.i.ents.length
theorem sopen_ino {H : Type} {enc : TypeId × Value → H} {w : World} {n : Nat} {cs : List Value} {d : DataW H} {pl : List MemPlace} (hl : cs.length = 8) (h : DataW.trod enc Tryz.prog w 0 (fun _ => true) true n 52 cs = some (d, pl)) : ∃ x : Rw, cs = EI.cells x ∧ SInoRead w x d := by
  obtain ⟨xs, m, _, hxy, _, hxl, hg⟩ := DataW.trod_struct Tryz.underlying52 h
  match cs, hl with
  | [c0, c1, c2, c3, c4, c5, c6, c7], _ =>
    have g0 := hg 0 _ rfl
    have g1 := hg 1 _ rfl
    have g2 := hg 2 _ rfl
    have g3 := hg 3 _ rfl
    have g4 := hg 4 _ rfl
    have hx5 : xs.length = 5 := by rw [hxl]; rfl
    match xs, hx5 with
    | [y0, y1, y2, y3, y4], _ =>
      simp only [List.getElem_toArray, List.getElem_cons_zero, List.getElem_cons_succ] at g0 g1 g2 g3 g4
      simp only [show Tryz.prog.cellsOf 49 = 1 from by kernel_rfl, show Tryz.prog.cellsOf 50 = 1 from by kernel_rfl, show Tryz.prog.cellsOf 3 = 1 from by kernel_rfl, show Tryz.prog.cellsOf 48 = 4 from by kernel_rfl] at g0 g1 g2 g3 g4
      simp at g0 g1 g2 g3 g4
      obtain ⟨zs, m2, _, _, _, hzl, hz⟩ := DataW.trod_struct Tryz.underlying48 g1
      have k0 := hz 0 _ rfl
      have k1 := hz 1 _ rfl
      have k2 := hz 2 _ rfl
      have k3 := hz 3 _ rfl
      have hz4 : zs.length = 4 := by rw [hzl]; rfl
      match zs, hz4 with
      | [z0, z1, z2, z3], _ =>
        simp only [List.getElem_toArray, List.getElem_cons_zero, List.getElem_cons_succ] at k0 k1 k2 k3
        simp only [show Tryz.prog.cellsOf 3 = 1 from by kernel_rfl] at k0 k1 k2 k3
        simp at k0 k1 k2 k3
        obtain ⟨g, e0, _, _⟩ := DataW.trod_int Tryz.underlying3 g0
        obtain ⟨k, e1, _, _⟩ := DataW.trod_int Tryz.underlying3 k0
        obtain ⟨l, e2, _, _⟩ := DataW.trod_int Tryz.underlying3 k1
        obtain ⟨s, e3, _, _⟩ := DataW.trod_int Tryz.underlying3 k2
        obtain ⟨t, e4, _, _⟩ := DataW.trod_int Tryz.underlying3 k3
        obtain ⟨nx, e7, _, _⟩ := DataW.trod_int Tryz.underlying3 g4
        obtain ⟨rs, hr1, hr2, hr3⟩ := open_runs g2
        obtain ⟨es, he1, he3, he2⟩ := sopen_ents g3
        simp only [List.cons.injEq, and_true] at e0 e1 e2 e3 e4 e7
        subst e0
        subst e1
        subst e2
        subst e3
        subst e4
        subst e7
        obtain ⟨rp, rc, rfl, _, _⟩ := hr1.open
        obtain ⟨ep, ec, rfl, _, _⟩ := he1.open
        exact ⟨⟨⟨g, k, l, s, t, rs, es, nx⟩, rp, rs.length, rc, ep, es.length, ec⟩, rfl, hr1, hr2, he1, he3, _, _, _, _, _, (Prod.mk.inj hxy).1, hr3, he2⟩
theorem sgood_of_read {H : Type} {w : World} {x : Rw} {d : DataW H} (h : SInoRead w x d) (hwt : ∀ n ∈ d.weights Tryz.prog 52, n ≤ reachBytes) : GoodW w x := by
  obtain ⟨h1, h2, h3, -, y0, y1, y2, y3, y4, hd, l2, l3⟩ := h
  have hrb := reach_le
  subst hd
  refine ⟨h1, h3, h2, ?_, ?_⟩
  · rcases l2 with l2 | ⟨es, sp, rfl, l2⟩
    · omega
    · have := hwt ((es.length + sp.length) * Tryz.prog.bytesOf 67) (by
        simp only [DataW.weights, Tryz.underlying52]
        refine DataW.weights_mem_each (j := 2) (t := 49) (d := .slice es sp) rfl rfl _ ?_
        simp [DataW.weights, Tryz.underlying49])
      rw [show Tryz.prog.bytesOf 67 = 24 from by kernel_rfl] at this
      omega
  · rcases l3 with l3 | ⟨es, sp, rfl, l3⟩
    · omega
    · have := hwt ((es.length + sp.length) * Tryz.prog.bytesOf 91) (by
        simp only [DataW.weights, Tryz.underlying52]
        refine DataW.weights_mem_each (j := 3) (t := 50) (d := .slice es sp) rfl rfl _ ?_
        simp [DataW.weights, Tryz.underlying50])
      rw [show Tryz.prog.bytesOf 91 = 40 from by kernel_rfl] at this
      omega
theorem sopen_tab {H : Type} {enc : TypeId × Value → H} {w : World} {v : Value} {d : DataW H} {p : List MemPlace} (hv : ∃ a len cap, v = .slice a len cap) (h : DataW.Trod enc Tryz.prog w 0 (fun _ => true) true 23 v d p) (hwt : ∀ n ∈ d.weights Tryz.prog 23, n ≤ reachBytes) : ∃ L, TabW w v L ∧ Sp.okN L := by
  obtain ⟨a, len, cap, rfl⟩ := hv
  obtain ⟨fuel, hf⟩ := h
  obtain ⟨L, h1, h2⟩ := open_row EI Tryz.underlying23 (by kernel_rfl) (by decide) (Q := fun x d => SInoRead w x d) (fun n cs d pl hl h => sopen_ino hl h) (by simpa [Value.cells] using hf)
  refine ⟨L, ⟨h1, fun x hx => ?_⟩, ?_⟩
  · rcases h2 with ⟨_, rfl⟩ | ⟨es, sp, hd, _, hq⟩
    · cases hx
    · obtain ⟨i, hi⟩ := List.mem_iff_getElem?.1 hx
      obtain ⟨dd, hdd, hr⟩ := hq i x hi
      refine sgood_of_read hr fun n hn => hwt n ?_
      simp only at hd
      rw [hd]
      simp only [DataW.weights, Tryz.underlying23, List.mem_cons, List.mem_append]
      right
      left
      exact weights_mem_all (List.mem_of_getElem? hdd) hn
  · intro x hx
    rcases h2 with ⟨_, rfl⟩ | ⟨es, sp, hd, _, hq⟩
    · cases hx
    · obtain ⟨i, hi⟩ := List.mem_iff_getElem?.1 hx
      obtain ⟨dd, hdd, hr⟩ := hq i x hi
      exact hr.2.2.2.1
end Go.Proofs.YtggoccfddnpelaaGreat
namespace Go.Proofs.YtggoccfddnpelaaGreat
set_option maxRecDepth 100000
namespace Law
open Go.ChangeShapes Go.WideShapes Go.ChangeAt Go.RowKit
theorem below_trodAll {H : Type} {enc : TypeId × Value → H} {P : Program} {W W' : World} (hl : laidOutB P = true) (hb : Below W.heap.size W W') :
    ∀ (ts : List TypeId) (vs : List Value) (ds : List (DataW H)) (p : List MemPlace), (∀ t ∈ ts, P.readableRec t = true ∧ t < P.types.size) → (∀ x ∈ p, x.block < W.heap.size) →
      DataW.TrodAll enc P W 0 (fun _ => true) true ts vs ds p → DataW.TrodAll enc P W' 0 (fun b => decide (b < W.heap.size)) true ts vs ds p
  | [], [], [], _, _, _, h => h
  | t :: ts, v :: vs, d :: ds, p, hts, hlt, h => by
    obtain ⟨p0, q, h0, hq, rfl⟩ := h
    have ht := hts t (by simp)
    exact ⟨p0, q, Below.trod hl ht.1 ht.2 h0 hb (fun x hx => hlt x (by simp [hx])), below_trodAll hl hb ts vs ds q (fun u hu => hts u (by simp [hu])) (fun x hx => hlt x (by simp [hx])) hq, rfl⟩
theorem post {H : Type} {enc : TypeId × Value → H} {P : Program} {f : Func} {s : ChangeSpec} {tb : TypeId} {W W' : World} {args : Array Value} {ds gs : List (DataW H)} {before : List MemPlace}
    (hl : laidOutB P = true) (hts : f.params.toList.all (fun t => P.readableRec t && decide (t < P.types.size)) = true) (hrt : f.resultTypes = #[tb]) (hub : P.underlying tb = some .bool)
    (hW : DataW.Whole enc P f.params.toList s.vars false W args.toList ds gs before) (hv : s.vars = [])
    (hspec : s.fn H (ds ++ gs) = { results := [.lit (.bool true)], args := ds }) (hb : Below W.heap.size W W') :
    s.post enc P f false true false false W args (.bool true) W' := by
  have hW' := hW
  obtain ⟨p, q, hA, hV, rfl, hfz, hnd⟩ := hW
  rw [hv] at hV
  obtain ⟨rfl, rfl⟩ := trodVars_none hV
  have hlt : ∀ x ∈ p, x.block < W.heap.size := fun x hx => by simpa using hW'.lt x (by simpa using hx)
  refine ⟨ds, [], p ++ [], [], p, [], hW', ?_, ?_, ?_, hb.frame _, fun h => by cases h⟩
  · rw [hspec, hrt]
    exact trodAll_mk1 (shut_bool hub _)
  · rw [hspec]
    refine below_trodAll hl hb _ _ _ _ (fun t ht => ?_) hlt hA
    have := List.all_eq_true.1 hts t ht
    simpa using this
  · rw [hspec, hv]
    rfl
end Law
end Go.Proofs.YtggoccfddnpelaaGreat
namespace Go.Proofs.YtggoccfddnpelaaGreat
open Go.ChangeShapes Go.WideShapes Go.ChangeAt Go.RowKit Go.Deep It
set_option maxRecDepth 100000
theorem slice_of {H : Type} {enc : TypeId × Value → H} {P : Program} {w : World} {t e : TypeId} {fuel : Nat} {v : Value} {dx : DataW H × List MemPlace} (ht : P.underlying t = some (.slice e)) (hf : DataW.trod enc P w 0 (fun _ => true) true fuel t [v] = some dx) : ∃ a len cap, v = .slice a len cap := by
  rcases open_slice ht hf with ⟨hcs, hx⟩ | ⟨a, len, cap, m, n, D, Pl, hcs, -⟩
  · simp at hcs
    exact ⟨_, _, _, hcs⟩
  · simp at hcs
    exact ⟨_, _, _, hcs⟩
theorem open_opens {H : Type} {enc : TypeId × Value → H} {w : World} {fuel : Nat} {v : Value} {dx : DataW H × List MemPlace} (hf : DataW.trod enc Tryz.prog w 0 (fun _ => true) true fuel 24 [v] = some dx) : ∃ l, AtW Os.EO w v l := by
  have : Inhabited Os.Opn := ⟨(0, 0, 0, 0)⟩
  obtain ⟨l, h1, -⟩ := open_row Os.EO Tryz.underlying24 (by kernel_rfl) (by decide) (Q := fun _ _ => True) (fun n cs d pl hl h => by
    obtain ⟨xs, m, _, _, _, hxl, hg⟩ := DataW.trod_struct Tryz.underlying57 h
    match cs, hl with
    | [c0, c1, c2, c3], _ =>
      have g0 := hg 0 _ rfl
      have g1 := hg 1 _ rfl
      have g2 := hg 2 _ rfl
      have hx3 : xs.length = 3 := by rw [hxl]; rfl
      match xs, hx3 with
      | [y0, y1, y2], _ =>
        simp only [List.getElem_toArray, List.getElem_cons_zero, List.getElem_cons_succ] at g0 g1 g2
        simp only [show Tryz.prog.cellsOf 3 = 1 from by kernel_rfl, show Tryz.prog.cellsOf 55 = 2 from by kernel_rfl] at g0 g1 g2
        simp at g0 g1 g2
        obtain ⟨z0, z1, m2, _, _, k0, k1⟩ := trod_struct2 Tryz.underlying55 g2
        simp only [show Tryz.prog.cellsOf 3 = 1 from by kernel_rfl] at k0 k1
        simp at k0 k1
        obtain ⟨s, e0, _, _⟩ := DataW.trod_int Tryz.underlying3 g0
        obtain ⟨a, e1, _, _⟩ := DataW.trod_int Tryz.underlying3 g1
        obtain ⟨b, e2, _, _⟩ := DataW.trod_int Tryz.underlying3 k0
        obtain ⟨c, e3, _, _⟩ := DataW.trod_int Tryz.underlying3 k1
        simp only [List.cons.injEq, and_true] at e0 e1 e2 e3
        subst e0
        subst e1
        subst e2
        subst e3
        exact ⟨(s, a, b, c), rfl, trivial⟩) hf
  exact ⟨l, h1⟩
theorem open_seats {H : Type} {enc : TypeId × Value → H} {w : World} {fuel : Nat} {v : Value} {dx : DataW H × List MemPlace} (hf : DataW.trod enc Tryz.prog w 0 (fun _ => true) true fuel 25 [v] = some dx) : ∃ l, AtW Es.ES w v l := by
  have : Inhabited Es.Sea := ⟨(0, 0, .empty)⟩
  obtain ⟨l, h1, -⟩ := open_row Es.ES Tryz.underlying25 (by kernel_rfl) (by decide) (Q := fun _ _ => True) (fun n cs d pl hl h => by
    obtain ⟨xs, m, _, _, _, hxl, hg⟩ := DataW.trod_struct Tryz.underlying60 h
    match cs, hl with
    | [c0, c1, c2], _ =>
      have g0 := hg 0 _ rfl
      have g1 := hg 1 _ rfl
      have g2 := hg 2 _ rfl
      have hx3 : xs.length = 3 := by rw [hxl]; rfl
      match xs, hx3 with
      | [y0, y1, y2], _ =>
        simp only [List.getElem_toArray, List.getElem_cons_zero, List.getElem_cons_succ] at g0 g1 g2
        simp only [show Tryz.prog.cellsOf 3 = 1 from by kernel_rfl, show Tryz.prog.cellsOf 9 = 1 from by kernel_rfl] at g0 g1 g2
        simp at g0 g1 g2
        obtain ⟨s, e0, _, _⟩ := DataW.trod_int Tryz.underlying3 g0
        obtain ⟨a, e1, _, _⟩ := DataW.trod_int Tryz.underlying3 g1
        obtain ⟨b, e2, _, _⟩ := DataW.trod_string Tryz.underlying9 g2
        simp only [List.cons.injEq, and_true] at e0 e1 e2
        subst e0
        subst e1
        subst e2
        exact ⟨(s, a, b), rfl, trivial⟩) hf
  exact ⟨l, h1⟩
theorem open_state {H : Type} {enc : TypeId × Value → H} {w : World} {r : Reach} {b0 : Nat} {v : Value} {d : DataW H} {p : List MemPlace} (hv : Value.okWide Tryz.prog w r b0 27 v) (h : DataW.Trod enc Tryz.prog w 0 (fun _ => true) true 27 v d p) (hwt : ∀ n ∈ d.weights Tryz.prog 27, n ≤ reachBytes) :
    ∃ (vi vo : Value) (sp : Option Addr) (sn sc : Nat) (dn : Int) (L : List Rw) (O : List Os.Opn) (Z : List Es.Sea), v = VSt vi vo (.slice sp sn sc) dn ∧ TabW w vi L ∧ Sp.okN L ∧ AtW Os.EO w vo O ∧ AtW Es.ES w (.slice sp sn sc) Z := by
  obtain ⟨cs, rfl, hsz⟩ := okWide_struct Tryz.underlying27 hv
  have hsz' : cs.size = 4 := hsz.trans (by kernel_rfl)
  obtain ⟨fuel, hf⟩ := h
  obtain ⟨xs, m, _, hxy, _, hxl, hg⟩ := DataW.trod_struct Tryz.underlying27 hf
  have hl : cs.toList.length = 4 := by simpa using hsz'
  obtain ⟨l⟩ := cs
  simp only at hl
  match l, hl with
  | [c0, c1, c2, c3], _ =>
    have hx4 : xs.length = 4 := by rw [hxl]; rfl
    have g0 := hg 0 _ rfl
    have g1 := hg 1 _ rfl
    have g2 := hg 2 _ rfl
    have g3 := hg 3 _ rfl
    match xs, hx4 with
    | [y0, y1, y2, y3], _ =>
      simp only [List.getElem_toArray, List.getElem_cons_zero, List.getElem_cons_succ] at g0 g1 g2 g3
      simp only [Value.cells, show Tryz.prog.cellsOf 3 = 1 from by kernel_rfl, show Tryz.prog.cellsOf 23 = 1 from by kernel_rfl, show Tryz.prog.cellsOf 24 = 1 from by kernel_rfl, show Tryz.prog.cellsOf 25 = 1 from by kernel_rfl] at g0 g1 g2 g3
      simp at g0 g1 g2 g3
      obtain ⟨dn, e3, _, _⟩ := DataW.trod_int Tryz.underlying3 g3
      simp only [List.cons.injEq, and_true] at e3
      subst e3
      obtain ⟨O, hO⟩ := open_opens g1
      obtain ⟨Z, hZ⟩ := open_seats g2
      obtain ⟨sp, sc, hz, -, -⟩ := hZ.open
      subst hz
      obtain ⟨a, len, cap, hs⟩ := slice_of Tryz.underlying23 g0
      subst hs
      have hd : d = .agg [y0.1, y1.1, y2.1, y3.1] := (Prod.mk.inj hxy).1
      obtain ⟨L, hL, hk⟩ := sopen_tab (w := w) (enc := enc) (d := y0.1) (p := y0.2) ⟨a, len, cap, rfl⟩ ⟨_, by simpa [Value.cells] using g0⟩ (fun n hn => hwt n (by
        rw [hd]
        simp only [DataW.weights, Tryz.underlying27]
        exact DataW.weights_mem_each (j := 0) (t := 23) (d := y0.1) rfl rfl n hn))
      exact ⟨_, _, _, _, _, dn, L, O, Z, rfl, hL, hk, hO, hZ⟩
end Go.Proofs.YtggoccfddnpelaaGreat
