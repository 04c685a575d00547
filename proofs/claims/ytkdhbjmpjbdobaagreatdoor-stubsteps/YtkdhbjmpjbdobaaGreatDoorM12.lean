/-
  The texts WWhole, PlainA, as one.
-/
import Derived.Test.YtkdhbjmpjbdobaaGreatDoorM11
/- WWhole -/
namespace Go.Proofs.YtkdhbjmpjbdobaaGreatDoor
open Go.ChangeShapes Go.WideShapes Go.ChangeAt Go.RowKit Go.Deep Me
set_option maxRecDepth 100000
/-- The memo that bytes are. -/
def pWhole (s : ByteArray) : Option Mm := if Po.Pl.ungErr s = 0 ∧ Pl.unpErr (Po.Pl.ungOut s).data.toList = 0 then pMemo (Pl.unpOut (Po.Pl.ungOut s).data.toList) else none
def Wq (w : World) (s : ByteArray) (e : Ending) (w' : World) : Prop := Below w.heap.size w w' ∧ (∀ m, pWhole s = some m → ∃ u z, e = .returned (VM m u z) ∧ At EI (fun b => w.heap.size ≤ b) w' u m.lives ∧ At EM (fun b => w.heap.size ≤ b) w' z m.items) ∧ (pWhole s = none → e = PB)
theorem wq_no {w w' : World} {s : ByteArray} (hb : Below w.heap.size w w') (hp : pWhole s = none) : Wq w s PB w' := ⟨hb, fun m h => (by rw [hp] at h; cases h), fun _ => rfl⟩
theorem atw {α : Type} {E : Enc α} {S : Nat → Prop} {w : World} {v : Value} {l : List α} (h : At E S w v l) : AtW E w v l := by
  rcases h with h | ⟨b, off, cap, rfl, -, hr⟩
  · exact .inl h
  · exact .inr ⟨b, off, cap, rfl, trivial, hr⟩
theorem wq_yes {w y w' : World} {s : ByteArray} {m : Mm} {u z : Value} {n : Nat} (hp : pWhole s = some m) (hb : Below w.heap.size w y) (hu : Row EI y (n + 1 + 1) 3 u m.lives) (hz : Row EM y (n + 1 + 1) 137 z m.items) (hn : w.heap.size < n) (hg : y.grownBy w' (some w.heap.size)) : Wq w s (.returned (VM m u z)) w' := by
  refine ⟨below_grown hb hg (Nat.le_refl _) hb.size, fun m' h => ?_, fun h => by rw [hp] at h; cases h⟩
  rw [hp] at h
  obtain rfl := Option.some.inj h
  exact ⟨u, z, rfl, (hu.stay hg (hu.ne_low (by omega))).at.imp fun b hb _ => by omega, (hz.stay hg (hz.ne_low (by omega))).at.imp fun b hb _ => by omega⟩
theorem Wh.start {w w3 : World} {v : Value} {l : List (Int × ByteArray)} (hb : Below (w.alloc (BM Me.zero NS NS)).heap.size (w.alloc (BM Me.zero NS NS)) w3) (hf : FieldsAt w3.heap.size w3 v l) (hsz : ∀ x ∈ l, x.2.size ≤ 65535) (hlen : l.length ≤ 60000) : Wh w w3.heap.size (w3.heap.size + 1) l Me.zero NS NS ((w3.alloc (.cells #[v] 192)).alloc (BM Me.zero NS NS)) := by
  have hs := hb.size
  simp at hs
  have hn := heap_alloc_new (w3.alloc (.cells #[v] 192)) (BM Me.zero NS NS)
  have e : (w3.alloc (.cells #[v] 192)).heap.size = w3.heap.size + 1 := by simp
  rw [e] at hn
  refine ⟨⟨v, Lt.up ⟨Boxed.new _ _ _, hf.below (below_alloc _ _) (Nat.le_refl _)⟩ (below_alloc _ _)⟩, hn, blk (blk (blk (heap_alloc_new _ _) hb) (below_alloc _ _)) (below_alloc _ _), Row.nil _ _ _ _, Row.nil _ _ _ _, bup (bup (bup (below_alloc _ _) hb) (below_alloc _ _)) (below_alloc _ _), by omega, by omega, hsz, hlen⟩
set_option maxRecDepth 100000 in
set_option maxRecDepth 100000 in
set_option maxHeartbeats 8000000 in
theorem whole_any (s : ByteArray) (w : World) (hs : s.size ≤ 60000) (ht : Po.Tab w) (hfs : ∀ x ∈ Pl.unpOut (Po.Pl.ungOut s).data.toList, x.2.size ≤ 65535) (hfl : (Pl.unpOut (Po.Pl.ungOut s).data.toList).length ≤ 60000) (hus : (Po.Pl.ungOut s).size ≤ 60000) : Calls Tryz.prog 76 #[.string s] w (Wq w s) := by
  have HT : Hid (Po.Tab (w.alloc (BM Me.zero NS NS))) := tab_up ht (below_alloc _ _)
  have HS : Hid (s.size ≤ 60000 ∧ (Po.Pl.ungOut s).size ≤ 60000) := ⟨hs, hus⟩
  obtain ⟨tx, htx⟩ : ∃ tx, Po.Pl.ungOut s = tx := ⟨_, rfl⟩
  have HTX : Hid (Po.Pl.ungOut s = tx) := htx
  obtain ⟨l0, hl0⟩ : ∃ l0, Pl.unpOut tx.data.toList = l0 := ⟨_, rfl⟩
  have HL0 : Hid (Pl.unpOut tx.data.toList = l0) := hl0
  obtain ⟨e1, he1⟩ : ∃ e, Po.Pl.ungErr s = e := ⟨_, rfl⟩
  have HE1 : Hid (Po.Pl.ungErr s = e1) := he1
  obtain ⟨e2, he2⟩ : ∃ e, Pl.unpErr tx.data.toList = e := ⟨_, rfl⟩
  have HE2 : Hid (Pl.unpErr tx.data.toList = e2) := he2
  have HPW : Hid (pWhole s = if e1 = 0 ∧ e2 = 0 then pMemo l0 else none) := by show _ = _; unfold pWhole; rw [htx, hl0, he1, he2]
  have HFS : Hid ((∀ x ∈ l0, x.2.size ≤ 65535) ∧ l0.length ≤ 60000) := by rw [← hl0, ← htx]; exact ⟨hfs, hfl⟩
  clear hs ht hfs hfl hus htx hl0 he1 he2
  go_enter Tryz.func76, Tryz.ntmps76
  go_wp2_with fail
  refine (Po.unguard_any s _ (by have := HS.out; omega) HT.out).mono ?_
  rintro e w1 ⟨rfl, hb1⟩
  rw [HTX.out, HE1.out]
  have HB1 : Hid (Below (w.alloc (BM Me.zero NS NS)).heap.size (w.alloc (BM Me.zero NS NS)) w1) := hb1
  clear hb1
  by_cases h1 : e1 = 0
  rotate_left
  · have h1' : (e1 == 0) = false := by simpa using h1
    have HP : Hid (pWhole s = none) := by show _ = _; rw [HPW.out, if_neg (fun h => h1 h.1)]
    clear h1
    go_wp2_with fail
    refine (need_no _).mono ?_
    rintro e w2 ⟨rfl, rfl⟩
    go_wp2
    exact ⟨rfl, wq_no (bup (below_alloc _ _) HB1.out) HP.out⟩
  have h1' : (e1 == 0) = true := by simpa using h1
  have H1 : Hid (e1 = 0) := h1
  clear h1
  go_wp2_with fail
  refine (need_yes _).mono ?_
  rintro e w2 ⟨rfl, rfl⟩
  go_wp2_with fail
  refine (unpack_any tx _ (by have := HS.out.2; rw [HTX.out] at this; omega)).mono ?_
  rintro e w3 ⟨r0, rfl, ho3, hb3⟩
  rw [HE2.out]
  rw [HL0.out] at ho3
  have hf3 := FieldsAt.of_own ho3
  obtain ⟨pa, na, ca, rfl⟩ : ∃ p n c, r0 = .slice p n c := by rcases hf3 with ⟨ao, c, rfl, -⟩ | ⟨b, off, c, rfl, -⟩ <;> exact ⟨_, _, _, rfl⟩
  have HF3 : Hid (FieldsAt w3.heap.size w3 (.slice pa na ca) l0) := hf3
  have HB3 : Hid (Below (w.alloc (BM Me.zero NS NS)).heap.size (w.alloc (BM Me.zero NS NS)) w3) := bup HB1.out hb3
  clear hb3 ho3 hf3
  by_cases h2 : e2 = 0
  rotate_left
  · have h2' : (e2 == 0) = false := by simpa using h2
    have HP : Hid (pWhole s = none) := by show _ = _; rw [HPW.out, if_neg (fun h => h2 h.2)]
    clear h2
    go_wp2_with fail
    refine (need_no _).mono ?_
    rintro e w4 ⟨rfl, rfl⟩
    go_wp2
    exact ⟨rfl, wq_no (bup (below_alloc _ _) HB3.out) HP.out⟩
  have h2' : (e2 == 0) = true := by simpa using h2
  have HP0 : Hid (pWhole s = c0 Me.zero l0) := by show _ = _; rw [HPW.out, if_pos ⟨H1.out, h2⟩]; rfl
  clear h2
  go_wp2_with fail
  refine (need_yes _).mono ?_
  rintro e w4 ⟨rfl, rfl⟩
  have M0 : Hid (Wh w w4.heap.size (w4.heap.size + 1) l0 Me.zero NS NS ((w4.alloc (.cells #[.slice pa na ca] 192)).alloc (BM Me.zero NS NS))) := Wh.start HB3.out HF3.out HFS.out.1 HFS.out.2
  clear HF3 HB3 HB1
  obtain ⟨v0, hv0⟩ := M0.out.lt
  have HV0 : Hid (Lt ((w4.alloc (.cells #[.slice pa na ca] 192)).alloc (BM Me.zero NS NS)) w4.heap.size v0 l0) := hv0
  clear hv0
  go_wp2_with fail
  refine (lnum_any 1 1 w4.heap.size v0 l0 _ HV0.out M0.out.sz).mono ?_
  rintro e x0 ⟨hg, hsome, hnone⟩
  rcases hq : pNum 1 1 l0 with _ | ⟨a0, l1⟩
  · obtain rfl := hnone hq
    have HP : Hid (pWhole s = none) := by show _ = _; rw [HP0.out]; unfold c0; rw [hq]; rfl
    have HB : Hid (Below w.heap.size w x0) := below_grown M0.out.bel hg (Nat.le_of_lt M0.out.hR) (by have := M0.out.bel.size; exact this)
    clear hg hsome hnone hq
    go_wp2
    exact ⟨rfl, wq_no HB.out HP.out⟩
  have HP1' : pWhole s = c1 { Me.zero with k := a0 } l1 := by rw [HP0.out]; unfold c0; rw [hq]; rfl
  obtain ⟨m1, hm1⟩ : ∃ m', { Me.zero with k := a0 } = m' := ⟨_, rfl⟩
  rw [hm1] at HP1'
  have HP1 : Hid (pWhole s = c1 m1 l1) := HP1'
  have hsub := pNum_sub hq
  obtain ⟨⟨_, rfl, rfl⟩, hl⟩ := hsome _ _ hq
  have N0 := M0.out.read hg hl (fun x hx => M0.out.sz x (hsub.1 x hx)) (Nat.le_trans hsub.2 M0.out.len)
  have q0 : x0.cell? ⟨w4.heap.size + 1, 0, none⟩ = some _ := cell_at N0.bx 0
  have f0 := fr_at N0.bx 0
  have M1 : Hid (Wh w w4.heap.size (w4.heap.size + 1) l1 m1 NS NS (x0.setCell ⟨w4.heap.size + 1, 0, none⟩ (.int .i64 a0))) := N0.put 0 _ (by rw [← hm1]; rfl) (by rw [← hm1]; exact N0.ru) (by rw [← hm1]; exact N0.rz)
  clear hg hsome hnone hl hsub N0 HP1' hm1 hq M0 HV0 HP0
  obtain ⟨v1, hv1⟩ := M1.out.lt
  have HV1 : Hid (Lt (x0.setCell ⟨w4.heap.size + 1, 0, none⟩ (.int .i64 a0)) w4.heap.size v1 l1) := hv1
  clear hv1
  go_wp2_with fail
  clear q0 f0
  refine (lnum_any 2 6 w4.heap.size v1 l1 _ HV1.out M1.out.sz).mono ?_
  rintro e x1 ⟨hg, hsome, hnone⟩
  rcases hq : pNum 2 6 l1 with _ | ⟨a1, l2⟩
  · obtain rfl := hnone hq
    have HP : Hid (pWhole s = none) := by show _ = _; rw [HP1.out]; unfold c1; rw [hq]; rfl
    have HB : Hid (Below w.heap.size w x1) := below_grown M1.out.bel hg (Nat.le_of_lt M1.out.hR) (by have := M1.out.bel.size; exact this)
    clear hg hsome hnone hq
    go_wp2
    exact ⟨rfl, wq_no HB.out HP.out⟩
  have HP2' : pWhole s = c2 { m1 with v := a1 } l2 := by rw [HP1.out]; unfold c1; rw [hq]; rfl
  obtain ⟨m2, hm2⟩ : ∃ m', { m1 with v := a1 } = m' := ⟨_, rfl⟩
  rw [hm2] at HP2'
  have HP2 : Hid (pWhole s = c2 m2 l2) := HP2'
  have hsub := pNum_sub hq
  obtain ⟨⟨_, rfl, rfl⟩, hl⟩ := hsome _ _ hq
  have N1 := M1.out.read hg hl (fun x hx => M1.out.sz x (hsub.1 x hx)) (Nat.le_trans hsub.2 M1.out.len)
  have q1 : x1.cell? ⟨w4.heap.size + 1, 1, none⟩ = some _ := cell_at N1.bx 1
  have f1 := fr_at N1.bx 1
  have M2 : Hid (Wh w w4.heap.size (w4.heap.size + 1) l2 m2 NS NS (x1.setCell ⟨w4.heap.size + 1, 1, none⟩ (.int .i64 a1))) := N1.put 1 _ (by rw [← hm2]; rfl) (by rw [← hm2]; exact N1.ru) (by rw [← hm2]; exact N1.rz)
  clear hg hsome hnone hl hsub N1 HP2' hm2 hq M1 HV1 HP1
  obtain ⟨v2, hv2⟩ := M2.out.lt
  have HV2 : Hid (Lt (x1.setCell ⟨w4.heap.size + 1, 1, none⟩ (.int .i64 a1)) w4.heap.size v2 l2) := hv2
  clear hv2
  go_wp2_with fail
  clear q1 f1
  refine (lnum_any 3 6 w4.heap.size v2 l2 _ HV2.out M2.out.sz).mono ?_
  rintro e x2 ⟨hg, hsome, hnone⟩
  rcases hq : pNum 3 6 l2 with _ | ⟨a2, l3⟩
  · obtain rfl := hnone hq
    have HP : Hid (pWhole s = none) := by show _ = _; rw [HP2.out]; unfold c2; rw [hq]; rfl
    have HB : Hid (Below w.heap.size w x2) := below_grown M2.out.bel hg (Nat.le_of_lt M2.out.hR) (by have := M2.out.bel.size; exact this)
    clear hg hsome hnone hq
    go_wp2
    exact ⟨rfl, wq_no HB.out HP.out⟩
  have HP3' : pWhole s = c3 { m2 with n := a2 } l3 := by rw [HP2.out]; unfold c2; rw [hq]; rfl
  obtain ⟨m3, hm3⟩ : ∃ m', { m2 with n := a2 } = m' := ⟨_, rfl⟩
  rw [hm3] at HP3'
  have HP3 : Hid (pWhole s = c3 m3 l3) := HP3'
  have hsub := pNum_sub hq
  obtain ⟨⟨_, rfl, rfl⟩, hl⟩ := hsome _ _ hq
  have N2 := M2.out.read hg hl (fun x hx => M2.out.sz x (hsub.1 x hx)) (Nat.le_trans hsub.2 M2.out.len)
  have q2 : x2.cell? ⟨w4.heap.size + 1, 2, none⟩ = some _ := cell_at N2.bx 2
  have f2 := fr_at N2.bx 2
  have M3 : Hid (Wh w w4.heap.size (w4.heap.size + 1) l3 m3 NS NS (x2.setCell ⟨w4.heap.size + 1, 2, none⟩ (.int .i64 a2))) := N2.put 2 _ (by rw [← hm3]; rfl) (by rw [← hm3]; exact N2.ru) (by rw [← hm3]; exact N2.rz)
  clear hg hsome hnone hl hsub N2 HP3' hm3 hq M2 HV2 HP2
  obtain ⟨v3, hv3⟩ := M3.out.lt
  have HV3 : Hid (Lt (x2.setCell ⟨w4.heap.size + 1, 2, none⟩ (.int .i64 a2)) w4.heap.size v3 l3) := hv3
  clear hv3
  go_wp2_with fail
  clear q2 f2
  refine (lnum_any 4 6 w4.heap.size v3 l3 _ HV3.out M3.out.sz).mono ?_
  rintro e x3 ⟨hg, hsome, hnone⟩
  rcases hq : pNum 4 6 l3 with _ | ⟨a3, l4⟩
  · obtain rfl := hnone hq
    have HP : Hid (pWhole s = none) := by show _ = _; rw [HP3.out]; unfold c3; rw [hq]; rfl
    have HB : Hid (Below w.heap.size w x3) := below_grown M3.out.bel hg (Nat.le_of_lt M3.out.hR) (by have := M3.out.bel.size; exact this)
    clear hg hsome hnone hq
    go_wp2
    exact ⟨rfl, wq_no HB.out HP.out⟩
  have HP4' : pWhole s = c4 { m3 with o := a3 } l4 := by rw [HP3.out]; unfold c3; rw [hq]; rfl
  obtain ⟨m4, hm4⟩ : ∃ m', { m3 with o := a3 } = m' := ⟨_, rfl⟩
  rw [hm4] at HP4'
  have HP4 : Hid (pWhole s = c4 m4 l4) := HP4'
  have hsub := pNum_sub hq
  obtain ⟨⟨_, rfl, rfl⟩, hl⟩ := hsome _ _ hq
  have N3 := M3.out.read hg hl (fun x hx => M3.out.sz x (hsub.1 x hx)) (Nat.le_trans hsub.2 M3.out.len)
  have q3 : x3.cell? ⟨w4.heap.size + 1, 3, none⟩ = some _ := cell_at N3.bx 3
  have f3 := fr_at N3.bx 3
  have M4 : Hid (Wh w w4.heap.size (w4.heap.size + 1) l4 m4 NS NS (x3.setCell ⟨w4.heap.size + 1, 3, none⟩ (.int .i64 a3))) := N3.put 3 _ (by rw [← hm4]; rfl) (by rw [← hm4]; exact N3.ru) (by rw [← hm4]; exact N3.rz)
  clear hg hsome hnone hl hsub N3 HP4' hm4 hq M3 HV3 HP3
  obtain ⟨v4, hv4⟩ := M4.out.lt
  have HV4 : Hid (Lt (x3.setCell ⟨w4.heap.size + 1, 3, none⟩ (.int .i64 a3)) w4.heap.size v4 l4) := hv4
  clear hv4
  go_wp2_with fail
  clear q3 f3
  refine (lnum_any 5 6 w4.heap.size v4 l4 _ HV4.out M4.out.sz).mono ?_
  rintro e x4 ⟨hg, hsome, hnone⟩
  rcases hq : pNum 5 6 l4 with _ | ⟨a4, l5⟩
  · obtain rfl := hnone hq
    have HP : Hid (pWhole s = none) := by show _ = _; rw [HP4.out]; unfold c4; rw [hq]; rfl
    have HB : Hid (Below w.heap.size w x4) := below_grown M4.out.bel hg (Nat.le_of_lt M4.out.hR) (by have := M4.out.bel.size; exact this)
    clear hg hsome hnone hq
    go_wp2
    exact ⟨rfl, wq_no HB.out HP.out⟩
  have HP5' : pWhole s = c5 { m4 with c := a4 } l5 := by rw [HP4.out]; unfold c4; rw [hq]; rfl
  obtain ⟨m5, hm5⟩ : ∃ m', { m4 with c := a4 } = m' := ⟨_, rfl⟩
  rw [hm5] at HP5'
  have HP5 : Hid (pWhole s = c5 m5 l5) := HP5'
  have hsub := pNum_sub hq
  obtain ⟨⟨_, rfl, rfl⟩, hl⟩ := hsome _ _ hq
  have N4 := M4.out.read hg hl (fun x hx => M4.out.sz x (hsub.1 x hx)) (Nat.le_trans hsub.2 M4.out.len)
  have q4 : x4.cell? ⟨w4.heap.size + 1, 4, none⟩ = some _ := cell_at N4.bx 4
  have f4 := fr_at N4.bx 4
  have M5 : Hid (Wh w w4.heap.size (w4.heap.size + 1) l5 m5 NS NS (x4.setCell ⟨w4.heap.size + 1, 4, none⟩ (.int .i64 a4))) := N4.put 4 _ (by rw [← hm5]; rfl) (by rw [← hm5]; exact N4.ru) (by rw [← hm5]; exact N4.rz)
  clear hg hsome hnone hl hsub N4 HP5' hm5 hq M4 HV4 HP4
  obtain ⟨v5, hv5⟩ := M5.out.lt
  have HV5 : Hid (Lt (x4.setCell ⟨w4.heap.size + 1, 4, none⟩ (.int .i64 a4)) w4.heap.size v5 l5) := hv5
  clear hv5
  go_wp2_with fail
  clear q4 f4
  refine (lnum_any 6 6 w4.heap.size v5 l5 _ HV5.out M5.out.sz).mono ?_
  rintro e x5 ⟨hg, hsome, hnone⟩
  rcases hq : pNum 6 6 l5 with _ | ⟨a5, l6⟩
  · obtain rfl := hnone hq
    have HP : Hid (pWhole s = none) := by show _ = _; rw [HP5.out]; unfold c5; rw [hq]; rfl
    have HB : Hid (Below w.heap.size w x5) := below_grown M5.out.bel hg (Nat.le_of_lt M5.out.hR) (by have := M5.out.bel.size; exact this)
    clear hg hsome hnone hq
    go_wp2
    exact ⟨rfl, wq_no HB.out HP.out⟩
  have HP6' : pWhole s = c6 { m5 with b := a5 } l6 := by rw [HP5.out]; unfold c5; rw [hq]; rfl
  obtain ⟨m6, hm6⟩ : ∃ m', { m5 with b := a5 } = m' := ⟨_, rfl⟩
  rw [hm6] at HP6'
  have HP6 : Hid (pWhole s = c6 m6 l6) := HP6'
  have hsub := pNum_sub hq
  obtain ⟨⟨_, rfl, rfl⟩, hl⟩ := hsome _ _ hq
  have N5 := M5.out.read hg hl (fun x hx => M5.out.sz x (hsub.1 x hx)) (Nat.le_trans hsub.2 M5.out.len)
  have q5 : x5.cell? ⟨w4.heap.size + 1, 5, none⟩ = some _ := cell_at N5.bx 5
  have f5 := fr_at N5.bx 5
  have M6 : Hid (Wh w w4.heap.size (w4.heap.size + 1) l6 m6 NS NS (x5.setCell ⟨w4.heap.size + 1, 5, none⟩ (.int .i64 a5))) := N5.put 5 _ (by rw [← hm6]; rfl) (by rw [← hm6]; exact N5.ru) (by rw [← hm6]; exact N5.rz)
  clear hg hsome hnone hl hsub N5 HP6' hm6 hq M5 HV5 HP5
  obtain ⟨v6, hv6⟩ := M6.out.lt
  have HV6 : Hid (Lt (x5.setCell ⟨w4.heap.size + 1, 5, none⟩ (.int .i64 a5)) w4.heap.size v6 l6) := hv6
  clear hv6
  go_wp2_with fail
  clear q5 f5
  refine (lnum_any 7 6 w4.heap.size v6 l6 _ HV6.out M6.out.sz).mono ?_
  rintro e x6 ⟨hg, hsome, hnone⟩
  rcases hq : pNum 7 6 l6 with _ | ⟨a6, l7⟩
  · obtain rfl := hnone hq
    have HP : Hid (pWhole s = none) := by show _ = _; rw [HP6.out]; unfold c6; rw [hq]; rfl
    have HB : Hid (Below w.heap.size w x6) := below_grown M6.out.bel hg (Nat.le_of_lt M6.out.hR) (by have := M6.out.bel.size; exact this)
    clear hg hsome hnone hq
    go_wp2
    exact ⟨rfl, wq_no HB.out HP.out⟩
  have HP7' : pWhole s = c7 { m6 with l := a6 } l7 := by rw [HP6.out]; unfold c6; rw [hq]; rfl
  obtain ⟨m7, hm7⟩ : ∃ m', { m6 with l := a6 } = m' := ⟨_, rfl⟩
  rw [hm7] at HP7'
  have HP7 : Hid (pWhole s = c7 m7 l7) := HP7'
  have hsub := pNum_sub hq
  obtain ⟨⟨_, rfl, rfl⟩, hl⟩ := hsome _ _ hq
  have N6 := M6.out.read hg hl (fun x hx => M6.out.sz x (hsub.1 x hx)) (Nat.le_trans hsub.2 M6.out.len)
  have q6 : x6.cell? ⟨w4.heap.size + 1, 6, none⟩ = some _ := cell_at N6.bx 6
  have f6 := fr_at N6.bx 6
  have M7 : Hid (Wh w w4.heap.size (w4.heap.size + 1) l7 m7 NS NS (x6.setCell ⟨w4.heap.size + 1, 6, none⟩ (.int .i64 a6))) := N6.put 6 _ (by rw [← hm7]; rfl) (by rw [← hm7]; exact N6.ru) (by rw [← hm7]; exact N6.rz)
  clear hg hsome hnone hl hsub N6 HP7' hm7 hq M6 HV6 HP6
  obtain ⟨v7, hv7⟩ := M7.out.lt
  have HV7 : Hid (Lt (x6.setCell ⟨w4.heap.size + 1, 6, none⟩ (.int .i64 a6)) w4.heap.size v7 l7) := hv7
  clear hv7
  go_wp2_with fail
  clear q6 f6
  refine (lnum_any 8 6 w4.heap.size v7 l7 _ HV7.out M7.out.sz).mono ?_
  rintro e x7 ⟨hg, hsome, hnone⟩
  rcases hq : pNum 8 6 l7 with _ | ⟨a7, l8⟩
  · obtain rfl := hnone hq
    have HP : Hid (pWhole s = none) := by show _ = _; rw [HP7.out]; unfold c7; rw [hq]; rfl
    have HB : Hid (Below w.heap.size w x7) := below_grown M7.out.bel hg (Nat.le_of_lt M7.out.hR) (by have := M7.out.bel.size; exact this)
    clear hg hsome hnone hq
    go_wp2
    exact ⟨rfl, wq_no HB.out HP.out⟩
  have HP8' : pWhole s = c8 { m7 with cl := a7 } l8 := by rw [HP7.out]; unfold c7; rw [hq]; rfl
  obtain ⟨m8, hm8⟩ : ∃ m', { m7 with cl := a7 } = m' := ⟨_, rfl⟩
  rw [hm8] at HP8'
  have HP8 : Hid (pWhole s = c8 m8 l8) := HP8'
  have hsub := pNum_sub hq
  obtain ⟨⟨_, rfl, rfl⟩, hl⟩ := hsome _ _ hq
  have N7 := M7.out.read hg hl (fun x hx => M7.out.sz x (hsub.1 x hx)) (Nat.le_trans hsub.2 M7.out.len)
  have q7 : x7.cell? ⟨w4.heap.size + 1, 7, none⟩ = some _ := cell_at N7.bx 7
  have f7 := fr_at N7.bx 7
  have M8 : Hid (Wh w w4.heap.size (w4.heap.size + 1) l8 m8 NS NS (x7.setCell ⟨w4.heap.size + 1, 7, none⟩ (.int .i64 a7))) := N7.put 7 _ (by rw [← hm8]; rfl) (by rw [← hm8]; exact N7.ru) (by rw [← hm8]; exact N7.rz)
  clear hg hsome hnone hl hsub N7 HP8' hm8 hq M7 HV7 HP7
  obtain ⟨v8, hv8⟩ := M8.out.lt
  have HV8 : Hid (Lt (x7.setCell ⟨w4.heap.size + 1, 7, none⟩ (.int .i64 a7)) w4.heap.size v8 l8) := hv8
  clear hv8
  go_wp2_with fail
  clear q7 f7
  refine (lives_any w4.heap.size v8 l8 _ HV8.out M8.out.sz M8.out.len).mono ?_
  rintro e x8 ⟨hg, hsome, hnone⟩
  rcases hq : pLives l8 with _ | ⟨a8, l9⟩
  · obtain rfl := hnone hq
    have HP : Hid (pWhole s = none) := by show _ = _; rw [HP8.out]; unfold c8; rw [hq]; rfl
    have HB : Hid (Below w.heap.size w x8) := below_grown M8.out.bel hg (Nat.le_of_lt M8.out.hR) (by have := M8.out.bel.size; exact this)
    clear hg hsome hnone hq
    go_wp2
    exact ⟨rfl, wq_no HB.out HP.out⟩
  have HP9' : pWhole s = c9 { m8 with lives := a8 } l9 := by rw [HP8.out]; unfold c8; rw [hq]; rfl
  obtain ⟨m9, hm9⟩ : ∃ m', { m8 with lives := a8 } = m' := ⟨_, rfl⟩
  rw [hm9] at HP9'
  have HP9 : Hid (pWhole s = c9 m9 l9) := HP9'
  have hsub := pLives_sub hq
  obtain ⟨⟨u9, rfl, hrow⟩, hl⟩ := hsome _ _ hq
  obtain ⟨p8, n8, d8, rfl⟩ := hrow.slice3
  have N8 := M8.out.read hg hl (fun x hx => M8.out.sz x (hsub.1 x hx)) (Nat.le_trans hsub.2 M8.out.len)
  have q8 : x8.cell? ⟨w4.heap.size + 1, 8, none⟩ = some _ := cell_at N8.bx 8
  have f8 := fr_at N8.bx 8
  have M9 : Hid (Wh w w4.heap.size (w4.heap.size + 1) l9 m9 (.slice p8 n8 d8) NS (x8.setCell ⟨w4.heap.size + 1, 8, none⟩ (.slice p8 n8 d8))) := N8.put 8 _ (by rw [← hm9]; rfl) (by rw [← hm9]; exact (hrow.base (Nat.succ_le_of_lt (block_lt M8.out.bx)))) (by rw [← hm9]; exact N8.rz)
  clear hrow
  clear hg hsome hnone hl hsub N8 HP9' hm9 hq M8 HV8 HP8
  obtain ⟨v9, hv9⟩ := M9.out.lt
  have HV9 : Hid (Lt (x8.setCell ⟨w4.heap.size + 1, 8, none⟩ (.slice p8 n8 d8)) w4.heap.size v9 l9) := hv9
  clear hv9
  go_wp2_with fail
  clear q8 f8
  refine (items_any w4.heap.size v9 l9 _ HV9.out M9.out.sz M9.out.len).mono ?_
  rintro e x9 ⟨hg, hsome, hnone⟩
  rcases hq : pItems l9 with _ | ⟨a9, l10⟩
  · obtain rfl := hnone hq
    have HP : Hid (pWhole s = none) := by show _ = _; rw [HP9.out]; unfold c9; rw [hq]; rfl
    have HB : Hid (Below w.heap.size w x9) := below_grown M9.out.bel hg (Nat.le_of_lt M9.out.hR) (by have := M9.out.bel.size; exact this)
    clear hg hsome hnone hq
    go_wp2
    exact ⟨rfl, wq_no HB.out HP.out⟩
  have HP10' : pWhole s = c10 { m9 with items := a9 } l10 := by rw [HP9.out]; unfold c9; rw [hq]; rfl
  obtain ⟨m10, hm10⟩ : ∃ m', { m9 with items := a9 } = m' := ⟨_, rfl⟩
  rw [hm10] at HP10'
  have HP10 : Hid (pWhole s = c10 m10 l10) := HP10'
  have hsub := pItems_sub hq
  obtain ⟨⟨z9, rfl, hrow⟩, hl⟩ := hsome _ _ hq
  obtain ⟨p9, n9, d9, rfl⟩ := hrow.slice3
  have N9 := M9.out.read hg hl (fun x hx => M9.out.sz x (hsub.1 x hx)) (Nat.le_trans hsub.2 M9.out.len)
  have q9 : x9.cell? ⟨w4.heap.size + 1, 9, none⟩ = some _ := cell_at N9.bx 9
  have f9 := fr_at N9.bx 9
  have M10 : Hid (Wh w w4.heap.size (w4.heap.size + 1) l10 m10 (.slice p8 n8 d8) (.slice p9 n9 d9) (x9.setCell ⟨w4.heap.size + 1, 9, none⟩ (.slice p9 n9 d9))) := N9.put 9 _ (by rw [← hm10]; rfl) (by rw [← hm10]; exact N9.ru) (by rw [← hm10]; exact (hrow.base (Nat.succ_le_of_lt (block_lt M9.out.bx))))
  clear hrow
  clear hg hsome hnone hl hsub N9 HP10' hm10 hq M9 HV9 HP9
  obtain ⟨v10, hv10⟩ := M10.out.lt
  have HV10 : Hid (Lt (x9.setCell ⟨w4.heap.size + 1, 9, none⟩ (.slice p9 n9 d9)) w4.heap.size v10 l10) := hv10
  clear hv10
  go_wp2_with fail
  clear q9 f9
  refine (man_any w4.heap.size v10 l10 _ HV10.out M10.out.sz).mono ?_
  rintro e x10 ⟨hg, hsome, hnone⟩
  rcases hq : pMan l10 with _ | ⟨a10, l11⟩
  · obtain rfl := hnone hq
    have HP : Hid (pWhole s = none) := by show _ = _; rw [HP10.out]; unfold c10; rw [hq]; rfl
    have HB : Hid (Below w.heap.size w x10) := below_grown M10.out.bel hg (Nat.le_of_lt M10.out.hR) (by have := M10.out.bel.size; exact this)
    clear hg hsome hnone hq
    go_wp2
    exact ⟨rfl, wq_no HB.out HP.out⟩
  have HP11' : pWhole s = c11 { m10 with mo := a10.1, ms := a10.2.1, mm := a10.2.2 } l11 := by rw [HP10.out]; unfold c10; rw [hq]; rfl
  obtain ⟨m11, hm11⟩ : ∃ m', { m10 with mo := a10.1, ms := a10.2.1, mm := a10.2.2 } = m' := ⟨_, rfl⟩
  rw [hm11] at HP11'
  have HP11 : Hid (pWhole s = c11 m11 l11) := HP11'
  have hsub := pMan_sub hq
  obtain ⟨⟨_, rfl, rfl⟩, hl⟩ := hsome _ _ hq
  have N10 := M10.out.read hg hl (fun x hx => M10.out.sz x (hsub.1 x hx)) (Nat.le_trans hsub.2 M10.out.len)
  have q10 : x10.cell? ⟨w4.heap.size + 1, 10, none⟩ = some _ := cell_at N10.bx 10
  have q10b : x10.cell? ⟨w4.heap.size + 1, 11, none⟩ = some _ := cell_at N10.bx 11
  have q10c : x10.cell? ⟨w4.heap.size + 1, 12, none⟩ = some _ := cell_at N10.bx 12
  have f10 := fr_at N10.bx 10
  have f10b := fr_at N10.bx 11
  have f10c := fr_at N10.bx 12
  have M11 : Hid (Wh w w4.heap.size (w4.heap.size + 1) l11 m11 (.slice p8 n8 d8) (.slice p9 n9 d9) (((x10.setCell ⟨w4.heap.size + 1, 10, none⟩ (.int .i64 a10.1)).setCell ⟨w4.heap.size + 1, 11, none⟩ (.int .i64 a10.2.1)).setCell ⟨w4.heap.size + 1, 12, none⟩ (.int .i64 a10.2.2))) :=
    (((N10.put (m' := { m10 with mo := a10.1 }) 10 _ rfl N10.ru N10.rz).put (m' := { m10 with mo := a10.1, ms := a10.2.1 }) 11 _ rfl (N10.put (m' := { m10 with mo := a10.1 }) 10 _ rfl N10.ru N10.rz).ru (N10.put (m' := { m10 with mo := a10.1 }) 10 _ rfl N10.ru N10.rz).rz) |> fun h => h.put 12 _ (by rw [← hm11]; rfl) (by rw [← hm11]; exact h.ru) (by rw [← hm11]; exact h.rz))
  clear hg hsome hnone hl hsub N10 HP11' hm11 hq M10 HV10 HP10
  obtain ⟨v11, hv11⟩ := M11.out.lt
  have HV11 : Hid (Lt (((x10.setCell ⟨w4.heap.size + 1, 10, none⟩ (.int .i64 a10.1)).setCell ⟨w4.heap.size + 1, 11, none⟩ (.int .i64 a10.2.1)).setCell ⟨w4.heap.size + 1, 12, none⟩ (.int .i64 a10.2.2)) w4.heap.size v11 l11) := hv11
  clear hv11
  go_wp2_with fail
  clear q10 q10b q10c f10 f10b f10c
  refine (lnum_any 12 2 w4.heap.size v11 l11 _ HV11.out M11.out.sz).mono ?_
  rintro e x11 ⟨hg, hsome, hnone⟩
  rcases hq : pNum 12 2 l11 with _ | ⟨a11, l12⟩
  · obtain rfl := hnone hq
    have HP : Hid (pWhole s = none) := by show _ = _; rw [HP11.out]; unfold c11; rw [hq]; rfl
    have HB : Hid (Below w.heap.size w x11) := below_grown M11.out.bel hg (Nat.le_of_lt M11.out.hR) (by have := M11.out.bel.size; exact this)
    clear hg hsome hnone hq
    go_wp2
    exact ⟨rfl, wq_no HB.out HP.out⟩
  have HP12' : pWhole s = c12 { m11 with nu := a11 } l12 := by rw [HP11.out]; unfold c11; rw [hq]; rfl
  obtain ⟨m12, hm12⟩ : ∃ m', { m11 with nu := a11 } = m' := ⟨_, rfl⟩
  rw [hm12] at HP12'
  have HP12 : Hid (pWhole s = c12 m12 l12) := HP12'
  have hsub := pNum_sub hq
  obtain ⟨⟨_, rfl, rfl⟩, hl⟩ := hsome _ _ hq
  have N11 := M11.out.read hg hl (fun x hx => M11.out.sz x (hsub.1 x hx)) (Nat.le_trans hsub.2 M11.out.len)
  have q11 : x11.cell? ⟨w4.heap.size + 1, 13, none⟩ = some _ := cell_at N11.bx 13
  have f11 := fr_at N11.bx 13
  have M12 : Hid (Wh w w4.heap.size (w4.heap.size + 1) l12 m12 (.slice p8 n8 d8) (.slice p9 n9 d9) (x11.setCell ⟨w4.heap.size + 1, 13, none⟩ (.int .i64 a11))) := N11.put 13 _ (by rw [← hm12]; rfl) (by rw [← hm12]; exact N11.ru) (by rw [← hm12]; exact N11.rz)
  clear hg hsome hnone hl hsub N11 HP12' hm12 hq M11 HV11 HP11
  obtain ⟨v12, hv12⟩ := M12.out.lt
  have HV12 : Hid (Lt (x11.setCell ⟨w4.heap.size + 1, 13, none⟩ (.int .i64 a11)) w4.heap.size v12 l12) := hv12
  clear hv12
  go_wp2_with fail
  clear q11 f11
  refine (data_any w4.heap.size v12 l12 _ HV12.out).mono ?_
  rintro e x12 ⟨hg, hsome, hnone⟩
  rcases hq : pData l12 with _ | ⟨a12, l13⟩
  · obtain rfl := hnone hq
    have HP : Hid (pWhole s = none) := by show _ = _; rw [HP12.out]; unfold c12; rw [hq]; rfl
    have HB : Hid (Below w.heap.size w x12) := below_grown M12.out.bel hg (Nat.le_of_lt M12.out.hR) (by have := M12.out.bel.size; exact this)
    clear hg hsome hnone hq
    go_wp2
    exact ⟨rfl, wq_no HB.out HP.out⟩
  have HP13' : pWhole s = c13 { m12 with d := a12 } l13 := by rw [HP12.out]; unfold c12; rw [hq]; rfl
  obtain ⟨m13, hm13⟩ : ∃ m', { m12 with d := a12 } = m' := ⟨_, rfl⟩
  rw [hm13] at HP13'
  have HP13 : Hid (pWhole s = c13 m13 l13) := HP13'
  have hsub := pData_sub hq
  obtain ⟨⟨_, rfl, rfl⟩, hl⟩ := hsome _ _ hq
  have N12 := M12.out.read hg hl (fun x hx => M12.out.sz x (hsub.1 x hx)) (Nat.le_trans hsub.2 M12.out.len)
  have q12 : x12.cell? ⟨w4.heap.size + 1, 14, none⟩ = some _ := cell_at N12.bx 14
  have f12 := fr_at N12.bx 14
  have M13 : Hid (Wh w w4.heap.size (w4.heap.size + 1) l13 m13 (.slice p8 n8 d8) (.slice p9 n9 d9) (x12.setCell ⟨w4.heap.size + 1, 14, none⟩ (.string a12))) := N12.put 14 _ (by rw [← hm13]; rfl) (by rw [← hm13]; exact N12.ru) (by rw [← hm13]; exact N12.rz)
  clear hg hsome hnone hl hsub N12 HP13' hm13 hq M12 HV12 HP12
  obtain ⟨v13, hv13⟩ := M13.out.lt
  obtain ⟨n13, hn13⟩ : ∃ n, l13.length = n := ⟨_, rfl⟩
  obtain ⟨p13, k13, rfl⟩ : ∃ p c, v13 = .slice p n13 c := by
    rcases hv13.row with ⟨ao, c, rfl, rfl⟩ | ⟨b, off, c, rfl, -⟩
    · exact ⟨_, _, by rw [← hn13]; rfl⟩
    · exact ⟨_, _, by rw [hn13]⟩
  have hvc := hv13.box.cell
  have HN13 : Hid (l13.length = n13) := hn13
  clear hv13 hn13
  by_cases hl : n13 = 0
  rotate_left
  · have hl' : ((n13 : Int) == 0) = false := by simp; omega
    have HP : Hid (pWhole s = none) := by show _ = _; rw [HP13.out]; unfold c13; rw [if_neg (fun h => hl (by rw [← HN13.out]; exact h.1))]
    clear hl
    go_wp2_with fail
    refine (need_no _).mono ?_
    rintro e w5 ⟨rfl, rfl⟩
    go_wp2
    exact ⟨rfl, wq_no M13.out.bel HP.out⟩
  have hl' : ((n13 : Int) == 0) = true := by rw [hl]; rfl
  have HP14 : Hid (pWhole s = if right m13 = true then some m13 else none) := by
    show _ = _
    rw [HP13.out]
    unfold c13
    have : l13.length = 0 := by rw [HN13.out, hl]
    simp [this]
  clear hl
  go_wp2_with fail
  refine (need_yes _).mono ?_
  rintro e w5 ⟨rfl, rfl⟩
  clear hvc
  obtain ⟨c0, c1, c2, c3, c4, c5, c6, c7, c8, c9, c10, c11, c12, c13, c14⟩ := mm_of M13.out.bx
  go_wp2_with fail
  clear c0 c1 c2 c3 c4 c5 c6 c7 c8 c9 c10 c11 c12 c13 c14 q12 f12
  refine (mCheck_any m13 _ _ _ ⟨atw M13.out.ru.at, atw M13.out.rz.at⟩).mono ?_
  rintro e y1 ⟨rfl, hb⟩
  have HY : Hid (Below w.heap.size w y1) := ⟨hb.os.trans M13.out.bel.os, hb.tape.trans M13.out.bel.tape, hb.output.trans M13.out.bel.output, Nat.le_trans M13.out.bel.size hb.size, fun k hk => (hb.block k (Nat.lt_of_lt_of_le hk M13.out.bel.size)).trans (M13.out.bel.block k hk)⟩
  have HRU : Hid (Row EI y1 (w4.heap.size + 1 + 1) 3 (.slice p8 n8 d8) m13.lives) := M13.out.ru.up hb
  have HRZ : Hid (Row EM y1 (w4.heap.size + 1 + 1) 137 (.slice p9 n9 d9) m13.items) := M13.out.rz.up hb
  have hbx := blk M13.out.bx hb
  have hrs := blk M13.out.rs hb
  have HRL : Hid (w.heap.size < w4.heap.size) := M13.out.hR
  have hrl : ¬ w.heap.size = w4.heap.size + 1 := by have := HRL.out; omega
  have hrl2 : ¬ w4.heap.size + 1 = w.heap.size := by have := HRL.out; omega
  clear hb M13
  cases hr : right m13 with
  | false =>
    have HP : Hid (pWhole s = none) := by show _ = _; rw [HP14.out, hr]; rfl
    clear hbx hrs hr
    go_wp2_with fail
    refine (need_no _).mono ?_
    rintro e w6 ⟨rfl, rfl⟩
    go_wp2
    exact ⟨rfl, wq_no HY.out HP.out⟩
  | true =>
    have HP : Hid (pWhole s = some m13) := by show _ = _; rw [HP14.out, hr]; rfl
    obtain ⟨c0, c1, c2, c3, c4, c5, c6, c7, c8, c9, c10, c11, c12, c13, c14⟩ := mm_of hbx
    obtain ⟨dd0, dd1, dd2, dd3, dd4, dd5, dd6, dd7, dd8, dd9, dd10, dd11, dd12, dd13, dd14⟩ := mm_of hrs
    have g0 := fr_at hrs 0
    have g1 := fr_at hrs 1
    have g2 := fr_at hrs 2
    have g3 := fr_at hrs 3
    have g4 := fr_at hrs 4
    have g5 := fr_at hrs 5
    have g6 := fr_at hrs 6
    have g7 := fr_at hrs 7
    have g8 := fr_at hrs 8
    have g9 := fr_at hrs 9
    have g10 := fr_at hrs 10
    have g11 := fr_at hrs 11
    have g12 := fr_at hrs 12
    have g13 := fr_at hrs 13
    have g14 := fr_at hrs 14
    clear hbx hrs hr
    go_wp2_with fail
    refine (need_yes _).mono ?_
    rintro e w6 ⟨rfl, rfl⟩
    go_wp2
    (try simp only [Exit.inBlock, Exit.then])
    refine bodyPost_ret (v := VM m13 (.slice p8 n8 d8) (.slice p9 n9 d9)) ?_ rfl (wq_yes HP.out HY.out HRU.out HRZ.out HRL.out ?_)
    · rw [results_cell1 rfl]
      go_simp
    · exact grown_trans (grown_trans (grown_trans (grown_trans (grown_trans (grown_trans (grown_trans (grown_trans (grown_trans (grown_trans (grown_trans (grown_trans (grown_trans (grown_trans (grown_set1 _ _ _ _) (grown_set1 _ _ _ _)) (grown_set1 _ _ _ _)) (grown_set1 _ _ _ _)) (grown_set1 _ _ _ _)) (grown_set1 _ _ _ _)) (grown_set1 _ _ _ _)) (grown_set1 _ _ _ _)) (grown_set1 _ _ _ _)) (grown_set1 _ _ _ _)) (grown_set1 _ _ _ _)) (grown_set1 _ _ _ _)) (grown_set1 _ _ _ _)) (grown_set1 _ _ _ _)) (grown_set1 _ _ _ _)
end Go.Proofs.YtkdhbjmpjbdobaaGreatDoor
/- PlainA -/
namespace Go.Proofs.YtkdhbjmpjbdobaaGreatDoor
set_option maxRecDepth 100000
namespace Pl

theorem numOf_acc (l : List UInt8) : ∀ a : Nat, l.foldl (fun n b => 256 * n + b.toNat) a = a * 256 ^ l.length + numOf l := by
  induction l with
  | nil => intro a; simp [numOf]
  | cons b l ih =>
    intro a
    have h1 := ih (256 * a + b.toNat)
    have h2 := ih (256 * 0 + b.toNat)
    have e : numOf (b :: l) = l.foldl (fun n b => 256 * n + b.toNat) (256 * 0 + b.toNat) := rfl
    rw [List.foldl_cons, h1, e, h2, List.length_cons, Nat.pow_succ]
    generalize 256 ^ l.length = p
    rw [Nat.mul_comm p 256, ← Nat.mul_assoc, Nat.add_mul, Nat.add_mul, Nat.mul_zero, Nat.zero_mul, Nat.zero_add, Nat.mul_comm a 256, Nat.add_assoc]
theorem numOf_cons (b : UInt8) (l : List UInt8) : numOf (b :: l) = b.toNat * 256 ^ l.length + numOf l := by
  have := numOf_acc l (256 * 0 + b.toNat)
  simpa [numOf] using this
theorem numOf_digits (m : Nat) : ∀ k, numOf (digits k m) = m % 256 ^ k
  | 0 => by simp [digits_zero, numOf, Nat.mod_one]
  | k + 1 => by
    rw [digits_succ, numOf_cons, numOf_digits m k, digits_length, Nat.pow_succ, Nat.mod_mul, UInt8.toNat_ofNat']
    have : m / 256 ^ k % 256 % 2 ^ 8 = m / 256 ^ k % 256 := Nat.mod_eq_of_lt (by omega)
    rw [this, Nat.mul_comm, Nat.add_comm]

theorem num_back {n size : Int} (hn : n ≤ 9223372036854775807) (h : numErr n size = 0) :
    numVal (numOut n size) = n ∧ numberErr (numOut n size) = 0 ∧ ((numOut n size).size : Int) = size := by
  have hb : numBad n size = false := by
    cases hc : numBad n size with
    | false => rfl
    | true => simp [numErr, hc] at h
  have ho : numOut n size = txt (digits size.toNat n.toNat) := by simp [numOut, hb]
  simp only [numBad, Bool.or_eq_false_iff, decide_eq_false_iff_not, Classical.not_not] at hb
  obtain ⟨h1, h2⟩ := hb
  obtain ⟨m, rfl⟩ := Int.eq_ofNat_of_zero_le (show 0 ≤ n by omega)
  obtain ⟨z, rfl⟩ := Int.eq_ofNat_of_zero_le (show 0 ≤ size by omega)
  rw [Int.toNat_natCast, Int.toNat_natCast] at ho h2
  have hlt : m < 256 ^ z := by
    rcases Nat.lt_or_ge m (256 ^ z) with h' | h'
    · exact h'
    · have := Nat.div_pos h' (Nat.pow_pos (by decide)); omega
  have hsz : (txt (digits z m)).size = z := by rw [txt_size, digits_length]
  have hS : sNum (txt (digits z m)) = false := by simp only [sNum, hsz, decide_eq_false_iff_not]; omega
  have hF : fNum (txt (digits z m)) = false := by
    unfold fNum
    rw [hsz, txt_data]
    by_cases h8 : z = 8
    · subst h8
      have e : (digits 8 m).headD 0 = UInt8.ofNat (m / 256 ^ 7 % 256) := by rw [digits_succ]; rfl
      have e7 : (256 : Nat) ^ 7 = 72057594037927936 := by decide
      rw [e, UInt8.toNat_ofNat', e7]
      simp
      omega
    · simp [h8]
  refine ⟨?_, ?_, ?_⟩
  · rw [ho, numVal, hS, hF, txt_data, numOf_digits, Nat.mod_eq_of_lt hlt]; rfl
  · rw [ho, numberErr, hS, hF]; rfl
  · rw [ho, hsz]

theorem encs_cons (x : Int × ByteArray) (l : List (Int × ByteArray)) : encs (x :: l) = encOne x ++ encs l := by simp [encs]

theorem encOne_field {last : Int} {l : List UInt8} (hs : stepErr last l = 0) (hl : 1 ≤ last) : badAt last (fieldOf l) = 0 ∧ encOne (fieldOf l) = l.take (3 + lenOf l) := by
  unfold stepErr at hs
  split at hs
  · cases hs
  · rename_i h3
    split at hs
    · cases hs
    · rename_i h4
      split at hs
      · cases hs
      · rename_i h5
        split at hs
        · cases hs
        · rename_i h6
          match l, h3, h4, h5, h6 with
          | [], h3, _, _, _ => exact absurd (by simp) h3
          | [_], h3, _, _, _ => exact absurd (by simp) h3
          | [_, _], h3, _, _, _ => exact absurd (by simp) h3
          | a :: b :: c :: r, h3, h4, h5, h6 =>
            have ha := a.toNat_lt
            have hb := b.toNat_lt
            have hc := c.toNat_lt
            have et : tagOf (a :: b :: c :: r) = (a.toNat : Int) := rfl
            have el : lenOf (a :: b :: c :: r) = 256 * b.toNat + c.toNat := rfl
            rw [et] at h4 h5
            rw [el] at h6
            have hlen : (r.take (256 * b.toNat + c.toNat)).length = 256 * b.toNat + c.toNat := by
              rw [List.length_take]; simp only [List.length_cons] at h6; omega
            have ef : fieldOf (a :: b :: c :: r) = ((a.toNat : Int), txt (r.take (256 * b.toNat + c.toNat))) := by
              unfold fieldOf; rw [et, el]; rfl
            have hsz : (txt (r.take (256 * b.toNat + c.toNat))).size = 256 * b.toNat + c.toNat := by rw [txt_size, hlen]
            rw [ef, el]
            constructor
            · unfold badAt
              rw [if_neg (by simp only; omega), if_neg (by simp only; rw [hsz]; omega), if_neg (by simp only; omega)]
            · unfold encOne
              simp only [hsz, txt_data, Int.toNat_natCast]
              rw [show (256 * b.toNat + c.toNat) / 256 = b.toNat from by omega, show (256 * b.toNat + c.toNat) % 256 = c.toNat from by omega,
                UInt8.ofNat_toNat, UInt8.ofNat_toNat, UInt8.ofNat_toNat, show 3 + (256 * b.toNat + c.toNat) = (256 * b.toNat + c.toNat) + 1 + 1 + 1 from by omega]
              rfl

theorem encs_parse : ∀ (f : Nat) (last : Int) (l : List UInt8), 1 ≤ last → l.length ≤ f → (parse f last l).2 = 0 → packErr last (parse f last l).1 = 0 ∧ encs (parse f last l).1 = l
  | 0, last, l, _, hf, _ => by
    have : l = [] := List.eq_nil_of_length_eq_zero (by omega)
    subst this
    exact ⟨rfl, rfl⟩
  | f + 1, last, l, hl, hf, h => by
    by_cases h0 : l = []
    · subst h0; rw [parse_nil]; exact ⟨rfl, rfl⟩
    · by_cases hs : stepErr last l = 0
      · have hp : parse (f + 1) last l = join [fieldOf l] (parse f (tagOf l) (l.drop (3 + lenOf l))) := by
          conv => lhs; unfold parse
          rw [if_neg h0, if_pos hs]
        rw [hp] at h ⊢
        have hr : (parse f (tagOf l) (l.drop (3 + lenOf l))).2 = 0 := by
          unfold join at h
          split at h
          · assumption
          · exact h
        obtain ⟨hb, he⟩ := encOne_field hs hl
        have hbz := badAt_zero hb
        have hn : 1 ≤ tagOf l := hbz.1
        have hlen : (l.drop (3 + lenOf l)).length ≤ f := by
          rw [List.length_drop]
          have : 0 < l.length := List.length_pos_iff.2 h0
          omega
        obtain ⟨i1, i2⟩ := encs_parse f (tagOf l) (l.drop (3 + lenOf l)) hn hlen hr
        have ej : (join [fieldOf l] (parse f (tagOf l) (l.drop (3 + lenOf l)))).1 = fieldOf l :: (parse f (tagOf l) (l.drop (3 + lenOf l))).1 := by
          unfold join; rw [if_pos hr]; rfl
        rw [ej]
        constructor
        · unfold packErr
          rw [if_pos hb]
          exact i1
        · rw [encs_cons, he, i2, List.take_append_drop]
      · have hp : parse (f + 1) last l = ([], stepErr last l) := by
          conv => lhs; unfold parse
          rw [if_neg h0, if_neg hs]
        rw [hp] at h
        exact absurd h hs

theorem again (L : List UInt8) (h : unpErr L = 0) : packErr 1 (unpOut L) = 0 ∧ encs (unpOut L) = L :=
  encs_parse L.length 1 L (by decide) (Nat.le_refl _) h
end Pl
end Go.Proofs.YtkdhbjmpjbdobaaGreatDoor
