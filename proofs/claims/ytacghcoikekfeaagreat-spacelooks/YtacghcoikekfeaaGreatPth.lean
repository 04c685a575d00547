/-
  space.Paths: what it answers.
-/
import Derived.Test.YtacghcoikekfeaaGreatPth0
namespace Go.Proofs.YtacghcoikekfeaaGreat
open Go.ChangeShapes Go.WideShapes Go.ChangeAt Go.RowKit Go.Deep Go.Shelf It
set_option maxRecDepth 100000
attribute [local go_sem] Oper.semAt_some
/-- The paths, as the program has them. -/
noncomputable def Sp.pathsC (L : List Ino) : List ByteArray := if Sp.isSp L = true then Sp.sortT (⟨#[47]⟩ :: (Sp.walk L 24 0 ⟨#[]⟩).flatMap (Sp.ways L)) else []
theorem row_own {A B' : World} {B : Nat} {u : Value} {l : List ByteArray} {row : Option Nat} (h : Row ETx A B 9 u l) (hg : A.grownBy B' row) (hr : ∀ r, row = some r → ∃ o : Obj, A.heap[r]? = some o ∧ o.isCells = false) : Row ETx B' B 9 u l := by
  rcases h with h | ⟨g, cap, cur, hu, hB, hh, h1⟩
  · exact .inl h
  · refine .inr ⟨g, cap, cur, hu, hB, (hg.block g (Array.getElem?_eq_some_iff.1 hh).1 (fun e => ?_)).trans hh, h1⟩
    obtain ⟨o, ho, hc⟩ := hr g e.symm
    rw [hh] at ho
    cases ho
    simp [Obj.isCells] at hc
theorem boxed_keep {A B' : World} {X : Nat} {t : TypeId} {u : Value} {row : Option Nat} (h : Boxed A X t u) (hg : A.grownBy B' row) (hr : ∀ r, row = some r → ∃ o : Obj, A.heap[r]? = some o ∧ o.isCells = false) : Boxed B' X t u := by
  refine (hg.block X h.lt (fun e => ?_)).trans h
  obtain ⟨o, ho, hc⟩ := hr X e.symm
  have h' : A.heap[X]? = some (.cells #[u] t (0, 0)) := h
  rw [h'] at ho
  cases ho
  simp [Obj.isCells] at hc
set_option maxRecDepth 100000 in
set_option maxHeartbeats 4000000 in
theorem paths_any {S : Nat → Prop} (v : Value) (L : List Rw) (w : World) (hv : TabAt S w v L) (hok : Sp.okN L) :
    Calls Tryz.prog 13 #[v] w fun e w' => ∃ u, e = .returned u ∧ AtW ETx w' u (Sp.pathsC (pl L)) ∧ Below w.heap.size w w' := by
  obtain ⟨j0, hji, hy0, hy1, hy2⟩ := info_parts infoT
  obtain ⟨ao, cap, rfl, -, -⟩ := hv.open
  obtain ⟨n, hn⟩ : ∃ n, L.length = n := ⟨_, rfl⟩
  have HN : Hid (L.length = n) := hn
  rw [hn] at hv ⊢
  have HV : Hid (TabAt S w (.slice ao n cap) L) := hv
  have HVL : Hid (TabAt (fun b => b < w.heap.size) w (.slice ao n cap) L) := tab_low hv
  have HOK : Hid (Sp.okN L) := hok
  obtain ⟨W0, hW0⟩ : ∃ W0, W0 = w.alloc (.cells #[.slice ao n cap] 22) := ⟨_, rfl⟩
  have hg0 : w.grownBy W0 none := by rw [hW0]; exact World.grownBy_alloc _ _ none
  have HX0 : Hid (Boxed W0 w.heap.size 22 (.slice ao n cap)) := by show Boxed _ _ _ _; rw [hW0]; exact Boxed.new w _ _
  have HB0 : Hid (Below w.heap.size w W0) := below_none hg0 (Nat.le_refl _)
  cases hs : Sp.isSp (pl L) with
  | false =>
    have HC : Hid (Sp.chk Sp.isSp (pl L) = 4) := by show _ = _; unfold Sp.chk; rw [hs]; rfl
    have hP : Sp.pathsC (pl L) = [] := by unfold Sp.pathsC; rw [hs]; rfl
    rw [hP]
    clear hs hP hn hv hok hg0
    go_enter Tryz.func13, Tryz.ntmps13
    have c0 := HX0.out.cell
    go_wp2_with fail
    rw [← hW0]
    refine (scheck_any _ _ L _ (HV.out.up HB0.out) HOK.out).mono ?_
    rintro e w1 ⟨rfl, hb1⟩
    rw [HC.out]
    have HB1 : Hid (Below w.heap.size w w1) := HB0.out.trans (hb1.mono HB0.out.size)
    clear hb1 hW0 c0
    go_wp2
    go_ret
    exact ⟨_, rfl, nilT, HB1.out⟩
  | true =>
    have HC : Hid (Sp.chk Sp.isSp (pl L) = 0) := by show _ = _; unfold Sp.chk; rw [hs]; rfl
    have hP : Sp.pathsC (pl L) = Sp.sortT (⟨#[47]⟩ :: (Sp.walk (pl L) 24 0 ⟨#[]⟩).flatMap (Sp.ways (pl L))) := by unfold Sp.pathsC; rw [if_pos hs]
    rw [hP]
    have hr := (Sp.isSp_iff.1 hs).1
    have ht := Sp.isSp_tree hs
    have hn24 : n ≤ 24 := by rw [← hn]; have := (Sp.right_len hr).2; rw [List.length_map] at this; exact this
    have hd : Sp.deep (pl L) 24 0 := Sp.isSp_deep hs (by have := (Sp.right_len hr).1; omega)
    have HFEW : Hid (((Sp.walk (pl L) 24 0 ⟨#[]⟩).flatMap (Sp.ways (pl L))).length ≤ 36864) := Sp.ways_few hs
    have HBD : Hid (∀ z ∈ Sp.walk (pl L) 24 0 ⟨#[]⟩, z.1 < n ∧ z.2.size ≤ 800 ∧ ∀ e ∈ Sp.entsAt (pl L) z.1, e.1.size ≤ 32) := fun z hz => by
      obtain ⟨h1, h2⟩ := Sp.walk_bd _ _ _ z hd hz
      rw [List.length_map, hn] at h1
      have h0 : (⟨#[]⟩ : ByteArray).size = 0 := rfl
      exact ⟨h1, by omega, fun e he => (ht.inr z.1 e he).2.2.1⟩
    have HD : Hid (Sp.deep (pl L) 24 0) := hd
    obtain ⟨xs, hxs⟩ : ∃ xs, Sp.walk (pl L) 24 0 ⟨#[]⟩ = xs := ⟨_, rfl⟩
    have HXS : Hid (Sp.walk (pl L) 24 0 ⟨#[]⟩ = xs) := hxs
    rw [hxs] at HFEW HBD ⊢
    clear hxs hs hP hv hok hg0 hr ht hd hn
    refine (callsIn_wide (n := 9)).1 ?_
    refine callsIn_of_wp_marks Tryz.func13 rfl trivial ?_
    simp only [Tryz.ntmps13, List.size_toArray, List.length_cons, List.length_nil, Nat.reduceAdd, Nat.reduceSub, Array.replicate_succ, Array.replicate_zero, List.push_toArray, List.append_toArray, List.nil_append, List.cons_append]
    have c0 := HX0.out.cell
    gi_wp2
    rw [← hW0]
    refine ⟨trivial, ?_⟩
    refine CallsIn.mono (callsIn_wide.2 (scheck_any _ _ L _ (HV.out.up HB0.out) HOK.out)) ?_
    rintro e' w1 ⟨rfl, hb1⟩
    rw [HC.out]
    have HX1 : Hid (Boxed w1 w.heap.size 22 (.slice ao n cap)) := (hb1.block _ HX0.out.lt).trans HX0.out
    have HB1 : Hid (Below w.heap.size w w1) := HB0.out.trans (hb1.mono HB0.out.size)
    clear hb1 hW0 c0
    obtain ⟨G, hG⟩ : ∃ G, w1.heap.size = G := ⟨_, rfl⟩
    obtain ⟨W2, hW2⟩ : ∃ W2, W2 = (w1.alloc (.cells #[.string ⟨#[47]⟩] 9)).alloc (.cells #[.slice (some ⟨w1.heap.size, 0, none⟩) 1 1] 28) := ⟨_, rfl⟩
    have hg2 : w1.grownBy W2 none := by rw [hW2]; exact grown_trans (World.grownBy_alloc _ _ none) (World.grownBy_alloc _ _ none)
    have hs2 : W2.heap.size = G + 2 := by rw [hW2]; simp [hG]
    have hbx : Boxed W2 (G + 1) 28 (.slice (some ⟨G, 0, none⟩) 1 1) := by
      have := Boxed.new (w1.alloc (.cells #[.string ⟨#[47]⟩] 9)) 28 (.slice (some ⟨w1.heap.size, 0, none⟩) 1 1)
      rw [show (w1.alloc (.cells #[.string ⟨#[47]⟩] 9)).heap.size = w1.heap.size + 1 by simp] at this
      rw [hW2, ← hG]
      exact this
    have hrw : Row ETx W2 G 9 (.slice (some ⟨G, 0, none⟩) 1 1) [⟨#[47]⟩] := by
      refine row_oneT ?_
      rw [hW2, ← hG]
      exact (Below.heap_alloc _ _ _ (by simp)).trans (heap_alloc_new _ _)
    have hb2 : HasBox (G + 1) W2 := ⟨_, hbx.cell, fun k e => (hrw.lt k e).2⟩
    have hwG : w.heap.size < G := by have := HX1.out.lt; omega
    have hmine : ∀ k, k < G → ¬ Mine (G + 1) W2 k := fun k hk h => by
      rcases h with h | ⟨u, hu, he⟩
      · omega
      · rw [hbx.cell] at hu
        cases hu
        have : G = k := by simpa [Value.ownBlock] using he
        omega
    have hx2 : Boxed W2 w.heap.size 22 (.slice ao n cap) := (hg2.block _ HX1.out.lt (by simp)).trans HX1.out
    have htab2 : TabAt (fun b => b < w.heap.size) W2 (.slice ao n cap) L := tab_up (HVL.out.up HB1.out) hg2
    rw [← HN.out] at htab2
    obtain ⟨hseq, hg3, hs3, hk3, hb3⟩ := folders_seq (n₀ := w.heap.size) (Bx := G + 1) (f := 24) (no := 0) (path := ⟨#[]⟩) (V2 := W2) HD.out (by decide) (by rw [HN.out]; omega) (by omega) htab2 hb2 (fun b hb => hmine b (by omega))
    unfold box3 at hseq hg3 hs3 hk3 hb3
    rw [HN.out] at hseq hg3 hs3 hk3 hb3
    obtain ⟨V3, hV3⟩ : ∃ V3, V3 = ((W2.alloc (.cells #[.slice ao n cap] 22)).alloc (.cells #[.int .i64 ((0 : Nat) : Int)] 3)).alloc (.cells #[.string ⟨#[]⟩] 9) := ⟨_, rfl⟩
    rw [← hV3] at hseq hg3 hs3 hk3 hb3
    rw [show ((0 : Nat) : Int) = 0 from rfl] at hV3
    have HSEQ : Hid (SeqOwn Tryz.prog 73 #[PT (W2.heap.size + 1), PT (W2.heap.size + 1 + 1), PT W2.heap.size] encF (G + 1) (Sp.walk (pl L) 24 0 ⟨#[]⟩) V3) := hseq
    have HB3 : Hid (Below w.heap.size w V3) := HB1.out.trans ((below_none (grown_trans hg2 hg3) (Nat.le_refl _)).mono HB1.out.size)
    have HR3 : Hid (Row ETx V3 G 9 (.slice (some ⟨G, 0, none⟩) 1 1) [⟨#[47]⟩]) := hrw.up (below_none hg3 (Nat.le_refl _))
    have HO3 : Hid (Boxed V3 (G + 1) 28 (.slice (some ⟨G, 0, none⟩) 1 1)) := hbx.kept hg3 (by simp)
    have HX3 : Hid (Boxed V3 w.heap.size 22 (.slice ao n cap) ∧ ¬ Mine (G + 1) V3 w.heap.size) := ⟨hx2.kept hg3 (by simp), hk3.safe (hmine _ hwG) hx2.lt⟩
    have HS3 : Hid (G + 1 < V3.heap.size ∧ w.heap.size < G) := ⟨by omega, hwG⟩
    have c2 := hx2.cell
    rw [HXS.out] at HSEQ
    rw [hG] at hW2
    have c1 := HX1.out.cell
    clear hseq hg3 hk3 hbx hrw hb2 hmine hx2 htab2 hs2 hs3 hg2
    gi_wp2
    rw [← hW2]
    refine ⟨trivial, ?_⟩
    refine CallsIn.mono (callsIn_wide.2 (folders_any _ _ _ _ ⟨_, _, _, rfl⟩)) ?_
    rintro e' w' ⟨rfl, rfl⟩
    rw [← hV3]
    clear hV3 hW2 c1 c2
    gi_wp2
    refine range_law (gf := 73) (lb := #[PT (W2.heap.size + 1), PT (W2.heap.size + 1 + 1), PT W2.heap.size]) (encs := encF) (Bx := G + 1) (xs := xs) rfl (enters_of Tryz.func73 (by kernel_rfl) rfl) hb3 HSEQ.out (fun _ => rfl)
      (fun pre V => ∃ p q c, Boxed V (G + 1) 28 (.slice p q c) ∧ Row ETx V G 9 (.slice p q c) (⟨#[47]⟩ :: pre.flatMap (Sp.ways (pl L))) ∧ Kp (G + 1) V3 V ∧ Below w.heap.size w V) (fun _ _ => False)
      (fun t A B row hs hg hr => by
        obtain ⟨p, q, c, h1, h2, h3, h4⟩ := hs
        exact ⟨p, q, c, boxed_keep h1 hg (fun r e => (hr r e).2), row_own h2 hg (fun r e => (hr r e).2), kp_own (β := Unit) hb3 (Nat.le_refl _) () A B row h3 hg hr, ownFrom_below (β := Unit) (Nat.le_refl _) (by have := HS3.out; omega) () A B row h4 hg hr⟩)
      (fun t A B row hs hg hr => hs)
      ⟨_, _, _, HO3.out, HR3.out, Kp.refl _ _, HB3.out⟩
      (fun z => { tmps := #[.slice ao n cap, PT w.heap.size, .slice none 0 0, PT (G + 1), .int .i64 (z.1 : Int), .string z.2, undef, undef, .slice ao n cap, .int .i64 0, .bool false, .slice (some ⟨G, 0, none⟩) 1 1, .slice ao n cap, .func (.func 73) #[] #[PT (W2.heap.size + 1), PT (W2.heap.size + 1 + 1), PT W2.heap.size], .int .i64 (z.1 : Int), .string z.2, undef, undef, undef, undef, undef, undef, undef, undef, undef, undef, undef, undef, undef, undef, undef, undef, undef, undef, undef, undef, undef, undef], defers := [] }) ?assign ?body ?done ?stop
    case assign =>
      intro l' m' z V4 K hK
      unfold encF
      gi_wp2
      exact hK
    case body =>
      rintro l' m' pre ⟨no, path⟩ V4 hl' hpz ⟨p, q, c, hX, hR, hK, hB⟩
      obtain ⟨hz1, hz2, hz3⟩ := HBD.out (no, path) (hpz.subset (by simp))
      simp only at hz1 hz2 hz3
      obtain ⟨x, hx⟩ : ∃ x, L[no]? = some x := ⟨_, List.getElem?_eq_getElem (by rw [HN.out]; exact hz1)⟩
      obtain ⟨⟨b, off, rfl, hBl, hc⟩, hen, hel, hes⟩ := tab_eight HV.out hx
      have HES : Hid (∀ j e, x.i.ents[j]? = some e → ∃ b' off, x.ep = some ⟨b', off, none⟩ ∧ b' < w.heap.size ∧ ent4 w b' (off + j * 4) e) := hes
      have HEA : Hid (Sp.entsAt (pl L) no = x.i.ents) := (ents_at hx).1
      have HNS : Hid (∀ e ∈ x.i.ents, e.1.size ≤ 32) := by rw [← HEA.out]; exact hz3
      obtain ⟨c0, c1, c2, c3, c4, c5, c6, c7⟩ := hc.below hB hBl
      have hno' : (no : Int) < (n : Int) := by omega
      obtain ⟨m, hm⟩ : ∃ m, x.en = m := ⟨_, rfl⟩
      obtain ⟨ep, hep⟩ : ∃ ep, x.ep = ep := ⟨_, rfl⟩
      obtain ⟨ec, hec⟩ : ∃ ec, x.ec = ec := ⟨_, rfl⟩
      have HM : Hid (x.i.ents.length = m) := hen.symm.trans hm
      have hmb : m ≤ 3518437208883 := by rw [← HM.out]; exact hel
      have HEP : Hid (x.ep = ep) := hep
      rw [hm, hep, hec] at c6
      have HWY : Hid (Sp.ways (pl L) (no, path) = x.i.ents.map fun e => Sp.way path e.1) := by show _ = _; unfold Sp.ways; rw [show (no, path).1 = no from rfl, HEA.out]
      have HLEN : Hid ((pre.flatMap (Sp.ways (pl L))).length + m ≤ 36864) := by
        obtain ⟨t, ht⟩ := hpz
        have h := HFEW.out
        rw [← ht, List.flatMap_append, List.flatMap_append, List.length_append, List.length_append, List.flatMap_cons, List.flatMap_nil, List.append_nil, HWY.out, List.length_map, HM.out] at h
        show _ ≤ _
        omega
      have d1 := (hK.cell (o := 0) HX3.out.2 HX3.out.1.lt).trans HX3.out.1.cell
      obtain ⟨base, hbase⟩ : ∃ base, (⟨#[47]⟩ : ByteArray) :: pre.flatMap (Sp.ways (pl L)) = base := ⟨_, rfl⟩
      have HBL : Hid (base.length ≤ 36865 - m ∧ m ≤ 36864) := by
        rw [← hbase]
        have := HLEN.out
        exact ⟨by simp only [List.length_cons]; omega, by omega⟩
      have HBS : Hid (⟨#[47]⟩ :: (pre ++ [(no, path)]).flatMap (Sp.ways (pl L)) = base ++ x.i.ents.map fun e => Sp.way path e.1) := by
        show _ = _
        rw [← hbase, List.flatMap_append, List.flatMap_cons, List.flatMap_nil, List.append_nil, HWY.out, List.cons_append]
      rw [hbase] at hR
      have HX4 : Hid (Boxed V4 (G + 1) 28 (.slice p q c)) := hX
      have HR4 : Hid (Row ETx V4 G 9 (.slice p q c) base) := hR
      have HB4 : Hid (Below w.heap.size w V4) := hB
      have HK4 : Hid (Kp (G + 1) V3 V4) := hK
      have HPS : Hid (path.size ≤ 800) := hz2
      clear hX hR hB hK hx hc hes hen hel hm hep hec hz3 hbase hpz hz2 c0 c1 c2 c3 c4 c5 c7
      gi_wp2
      clear c6 d1
      gi_loopw [22] (fun i wr => ∃ (j : Nat) (p : Option Addr) (q c : Nat), j ≤ m ∧ i = .int .i64 j ∧ Hid (Boxed wr (G + 1) 28 (.slice p q c)) ∧ Hid (Row ETx wr G 9 (.slice p q c) (base ++ (x.i.ents.take j).map fun e => Sp.way path e.1)) ∧ Hid (Kp (G + 1) V4 wr) ∧ Hid (Below w.heap.size w wr)) (fun i _ => m - (intOf i).toNat)
      case atStart => exact ⟨0, p, q, c, Nat.zero_le _, rfl, HX4.out, (show Row ETx V4 G 9 (.slice p q c) (base ++ (x.i.ents.take 0).map fun e => Sp.way path e.1) from by simpa using HR4.out), Kp.refl _ _, HB4.out⟩
      case round =>
        obtain ⟨j, p5, q5, c5, hj, rfl, HX5, HR5, HK5, HB5⟩ := hrel
        by_cases hjm : j < m
        · obtain ⟨⟨s, ck, e3, g⟩, hej⟩ : ∃ e, x.i.ents[j]? = some e := ⟨_, List.getElem?_eq_getElem (by rw [HM.out]; exact hjm)⟩
          obtain ⟨b2, off2, hep, hb2, h4⟩ := HES.out j _ hej
          obtain rfl : ep = some ⟨b2, off2, none⟩ := HEP.out.symm.trans hep
          obtain ⟨d0, d1, d2, d3⟩ := h4.below HB5.out hb2
          simp only at d0 d1 d2 d3
          have hjm' : (j : Int) < (m : Int) := by omega
          have hss : s.size ≤ 32 := HNS.out _ (List.mem_of_getElem? hej)
          have hcat : ¬ 9223372036854775807 < path.size + 1 + s.size := by have := HPS.out; omega
          have HST : Hid (base ++ (x.i.ents.take (j + 1)).map (fun e => Sp.way path e.1) = base ++ (x.i.ents.take j).map (fun e => Sp.way path e.1) ++ [path ++ (⟨#[47]⟩ : ByteArray) ++ s]) := by
            show _ = _
            rw [List.take_add_one, hej, List.map_append, List.append_assoc]
            rfl
          obtain ⟨ls, hls⟩ : ∃ ls, base ++ (x.i.ents.take j).map (fun e => Sp.way path e.1) = ls := ⟨_, rfl⟩
          have HLL : Hid (ls.length ≤ 36865) := by
            have h1 := HBL.out
            have h2 : ls.length ≤ 36865 := by
              rw [← hls]
              simp only [List.length_append, List.length_map, List.length_take]
              omega
            exact h2
          rw [hls] at HST HR5
          have e5 := HX5.out.cell
          have hl5 := HX5.out.lt
          obtain ⟨W6, hW6⟩ : ∃ W6, W6 = (wr.alloc (BEn (s, ck, e3, g))).alloc (.cells #[.string (path ++ (⟨#[47]⟩ : ByteArray) ++ s)] 9) := ⟨_, rfl⟩
          have hg6 : wr.grownBy W6 none := by rw [hW6]; exact grown_trans (World.grownBy_alloc _ _ none) (World.grownBy_alloc _ _ none)
          have HX6 : Hid (Boxed W6 (G + 1) 28 (.slice p5 q5 c5)) := HX5.out.kept hg6 (by simp)
          have HR6 : Hid (Row ETx W6 G 9 (.slice p5 q5 c5) ls) := HR5.out.up (below_none hg6 (Nat.le_refl _))
          have HB6 : Hid (Below w.heap.size w W6) := HB5.out.trans ((below_none hg6 (Nat.le_refl _)).mono HB5.out.size)
          have HK6 : Hid (Kp (G + 1) V4 W6) := HK5.out.trans (Kp.still ⟨_, HX5.out.cell, fun k e => (HR5.out.lt k e).2⟩ hg6)
          have HO6 : Hid (AtW ETx W6 (.slice (some ⟨wr.heap.size + 1, 0, none⟩) 1 1) [path ++ (⟨#[47]⟩ : ByteArray) ++ s]) := by
            have h2 := heap_alloc_new (wr.alloc (BEn (s, ck, e3, g))) (.cells #[.string (path ++ (⟨#[47]⟩ : ByteArray) ++ s)] 9)
            rw [show (wr.alloc (BEn (s, ck, e3, g))).heap.size = wr.heap.size + 1 by simp] at h2
            rw [hW6]
            exact at_oneT h2
          have HGW : Hid (G ≤ W6.heap.size ∧ w.heap.size ≤ G + 1) := ⟨by have := HX6.out.lt; omega, by have := HS3.out; omega⟩
          clear hej hep h4 hls hg6
          gi_wp2_with (gi_at_builtin; rw [← hW6]; refine wpListIn_row _ rfl _ _ 28 rfl ETx (fun _ => True) G 9 j0 _ 16 Tryz.underlying28 hji hy0 hy1 hy2 rfl _ ls rfl HR6.out _ [path ++ (⟨#[47]⟩ : ByteArray) ++ s] rfl HO6.out (by have := HLL.out; unfold maxLen; simp only [List.length_cons, List.length_nil]; omega) (by have := HLL.out; simp only [List.length_cons, List.length_nil]; omega) HGW.out.1 ?_; intro v7 w7 hrow7 hg7 hloc7; have HEND : Hid (Kp (G + 1) W6 (w7.setCell ⟨G + 1, 0, none⟩ v7) ∧ Boxed (w7.setCell ⟨G + 1, 0, none⟩ v7) (G + 1) 28 v7 ∧ Row ETx (w7.setCell ⟨G + 1, 0, none⟩ v7) G 9 v7 (ls ++ [path ++ (⟨#[47]⟩ : ByteArray) ++ s])) := kp_app HX6.out HR6.out hg7 hrow7 hloc7; have hb7 : Boxed w7 (G + 1) 28 (.slice p5 q5 c5) := (hg7.block (G + 1) HX6.out.lt (fun e => row_box HR6.out HX6.out _ e.symm rfl)).trans HX6.out; have HB7 : Hid (Below w.heap.size w (w7.setCell ⟨G + 1, 0, none⟩ v7)) := (HB6.out.grown hg7 HB6.out.size (fun k hk => by have := (HR6.out.lt k hk).1; have := HS3.out; omega)).setCell HGW.out.2 _; have c7 := hb7.cell; have f7 := hb7.frozen; obtain ⟨p7, n7, k7, rfl⟩ := hrow7.slice3; clear hrow7 hg7 hloc7 hb7)
          go_roundw
          case rel => exact ⟨j + 1, p7, n7, k7, by omega, by go_num, HEND.out.2.1, by rw [HST.out]; exact HEND.out.2.2, HK6.out.trans HEND.out.1, HB7.out⟩
          case measure => simp [intOf]; omega
        · obtain rfl : m = j := by omega
          have HE : Hid (base ++ (x.i.ents.take m).map (fun e => Sp.way path e.1) = ⟨#[47]⟩ :: (pre ++ [(no, path)]).flatMap (Sp.ways (pl L))) := by
            show _ = _
            rw [HBS.out, List.take_of_length_le (by rw [HM.out]; exact Nat.le_refl _)]
          gi_wp2
          exact ⟨HK5.out, p5, q5, c5, HX5.out, by rw [← HE.out]; exact HR5.out, HK4.out.trans HK5.out, HB5.out⟩
    case done =>
      rintro D V5 hD ⟨p, q, c, hX, hR, -, hB⟩ hdf
      have HX5 : Hid (Boxed V5 (G + 1) 28 (.slice p q c)) := hX
      have HR5 : Hid (Row ETx V5 G 9 (.slice p q c) (⟨#[47]⟩ :: xs.flatMap (Sp.ways (pl L)))) := hR
      have HB5 : Hid (Below w.heap.size w V5) := hB
      have HD5 : Hid (V5.heap[D]? = some (.deferred (some [])) ∧ w.heap.size ≤ D) := ⟨hdf, by have := HS3.out; omega⟩
      obtain ⟨g, rfl⟩ : ∃ g, p = some ⟨g, 0, none⟩ := by
        rcases hR with ⟨_, h⟩ | ⟨g, cap, cur, hu, _⟩
        · cases h
        · simp only [Value.slice.injEq] at hu
          exact ⟨g, hu.1⟩
      have e5 := hX.cell
      have HSO : Hid (∀ {V : World}, V5 = V → Calls Tryz.prog 41 #[.slice (some ⟨g, 0, none⟩) q c] V fun e w' => e = .returned (.tuple #[]) ∧ Row ETx w' G 9 (.slice (some ⟨g, 0, none⟩) q c) (Sp.sortT (⟨#[47]⟩ :: xs.flatMap (Sp.ways (pl L)))) ∧ V.grownBy w' (some g)) := fun {V} h => by
        subst h
        exact sort_row g c q _ V5 G HR5.out (by have := HFEW.out; simp only [List.length_cons]; omega)
      clear hX hR hB hdf hD
      gi_wp2
      refine ⟨trivial, ?_⟩
      refine CallsIn.mono (callsIn_wide.2 (HSO.out rfl)) ?_
      rintro e' w6 ⟨rfl, hr6, hg6⟩
      have hgX : g ≠ G + 1 := row_box HR5.out HX5.out g rfl
      have HX6 : Hid (Boxed w6 (G + 1) 28 (.slice (some ⟨g, 0, none⟩) q c)) := (hg6.block (G + 1) HX5.out.lt (fun e => hgX (Option.some.inj e).symm)).trans HX5.out
      have HD6 : Hid (w6.heap[D]? = some (.deferred (some []))) := by
        refine (hg6.block D (Array.getElem?_eq_some_iff.1 HD5.out.1).1 (fun e => ?_)).trans HD5.out.1
        obtain ⟨cur, hc⟩ := row_block HR5.out (k := g) rfl
        have hDg : D = g := Option.some.inj e
        rw [← hDg, HD5.out.1] at hc
        cases hc
      have HB6 : Hid (Below w.heap.size w w6) := HB5.out.grown hg6 HB5.out.size (fun k e => by cases e; have := (HR5.out.lt g rfl).1; have := HS3.out; omega)
      have HR6 : Hid (Row ETx w6 G 9 (.slice (some ⟨g, 0, none⟩) q c) (Sp.sortT (⟨#[47]⟩ :: xs.flatMap (Sp.ways (pl L))))) := hr6
      have e6 := HX6.out.cell
      clear hr6 hg6 e5
      gi_wp2
      refine ⟨by simp, .inl ⟨_, _, rfl, run_takeDeferred HD6.out, ?_⟩⟩
      refine ⟨_, results_tmp rfl _ _ _, _, rfl, (row_own HR6.out (grownBy_putObj' _ _ _) (fun r e => by cases e; exact ⟨_, HD6.out, rfl⟩)).at.wide, HB6.out.grown (grownBy_putObj' _ _ _) HB6.out.size (fun k e => by cases e; exact HD5.out.2)⟩
    case stop =>
      rintro D pre V5 hD hpre h hdf
      exact h.elim
end Go.Proofs.YtacghcoikekfeaaGreat
