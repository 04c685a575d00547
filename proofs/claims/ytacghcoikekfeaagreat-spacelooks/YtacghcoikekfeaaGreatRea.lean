/-
  space.reached: what it answers.
-/
import Derived.Test.YtacghcoikekfeaaGreatIns
namespace Go.Proofs.YtacghcoikekfeaaGreat
open Go.ChangeShapes Go.WideShapes Go.ChangeAt Go.RowKit Go.Deep Go.Shelf It
set_option maxRecDepth 100000
attribute [local go_sem] Oper.semAt_some
/-- A store into the box alone. -/
theorem kp_set {V : World} {Bx : Nat} {t : TypeId} {u u' : Value} (h : Boxed V Bx t u) (hu' : ∀ k, u'.ownBlock ≠ some k) : Kp Bx V (V.setCell ⟨Bx, 0, none⟩ u') := by
  have hg := grownBy_setCell' V Bx u'
  have hs : (V.setCell ⟨Bx, 0, none⟩ u').cell? ⟨Bx, 0, none⟩ = some u' := (h.set u').cell
  refine ⟨hg.os, hg.tape, hg.output, hg.size, fun _ => ⟨u', hs, fun k e => absurd e (hu' k)⟩, fun k hk hn => hg.block k hk (fun e => hn (.inl (by cases e; rfl))), fun k _ hm => ?_, fun k o hk ho => (KeepsOthers.setCell V _ _).same k o hk ho⟩
  rcases hm with rfl | ⟨v, hv, he⟩
  · exact .inl rfl
  · rw [hs] at hv
    cases hv
    exact absurd he (hu' k)
set_option maxRecDepth 100000 in
set_option maxHeartbeats 4000000 in
theorem reached_any {S : Nat → Prop} (v : Value) (L : List Rw) (w : World) (hv : TabAt S w v L) (hd : Sp.deep (pl L) 24 0) (hL : L.length ≤ 24) (hlen : (Sp.walk (pl L) 24 0 ⟨#[]⟩).length ≤ 24) :
    Calls Tryz.prog 34 #[v] w fun e w' => e = .returned (.bool (((Sp.walk (pl L) 24 0 ⟨#[]⟩).length : Int) - ((pl L).countP (fun x => x.kind == 2) : Nat) == 0)) ∧ Below w.heap.size w w' := by
  obtain ⟨ao, cap, rfl, -, hx⟩ := hv.open
  obtain ⟨W0, hW0⟩ : ∃ W0, W0 = w.alloc (.cells #[.int .i64 0] 3) := ⟨_, rfl⟩
  have hg0 : w.grownBy W0 none := by rw [hW0]; exact World.grownBy_alloc _ _ none
  have hs0 : W0.heap.size = w.heap.size + 1 := by rw [hW0]; simp
  have hR : Boxed W0 w.heap.size 3 (.int .i64 0) := by rw [hW0]; exact Boxed.new w 3 _
  have hb0 : HasBox w.heap.size W0 := ⟨_, hR.cell, fun k e => by cases e⟩
  have hmine : ∀ k, k ≠ w.heap.size → ¬ Mine w.heap.size W0 k := fun k hk h => by
    rcases h with h | ⟨u, hu, he⟩
    · exact hk h
    · rw [hR.cell] at hu
      cases hu
      cases he
  obtain ⟨hseq, hg3, hs3, hk3, hb3⟩ := folders_seq (n₀ := w.heap.size) (Bx := w.heap.size) (f := 24) (no := 0) (path := ⟨#[]⟩) (V2 := W0) hd (by decide) (by omega) (by omega) (tab_up (tab_low hv) hg0) hb0 (fun b hb => hmine b (by omega))
  unfold box3 at hseq hg3 hs3 hk3 hb3
  obtain ⟨V3, hV3⟩ : ∃ V3, V3 = ((W0.alloc (.cells #[.slice ao L.length cap] 22)).alloc (.cells #[.int .i64 ((0 : Nat) : Int)] 3)).alloc (.cells #[.string ⟨#[]⟩] 9) := ⟨_, rfl⟩
  rw [← hV3] at hseq hg3 hs3 hk3 hb3
  have HSEQ : Hid (SeqOwn Tryz.prog 73 #[PT (W0.heap.size + 1), PT (W0.heap.size + 1 + 1), PT W0.heap.size] encF w.heap.size (Sp.walk (pl L) 24 0 ⟨#[]⟩) V3) := hseq
  have HB3 : Hid (Below w.heap.size w V3) := below_none (grown_trans hg0 hg3) (Nat.le_refl _)
  have HR3 : Hid (Boxed V3 w.heap.size 3 (.int .i64 0)) := hR.kept hg3 (by simp)
  have HS3 : Hid (w.heap.size < V3.heap.size) := by show w.heap.size < V3.heap.size; omega
  obtain ⟨xs, hxs⟩ : ∃ xs, Sp.walk (pl L) 24 0 ⟨#[]⟩ = xs := ⟨_, rfl⟩
  rw [hxs] at HSEQ hlen ⊢
  obtain ⟨r, hr⟩ : ∃ r, ((xs.length : Int) - ((pl L).countP (fun x => x.kind == 2) : Nat) == 0) = r := ⟨_, rfl⟩
  rw [hr]
  have HRV : Hid (((xs.length : Int) - ((pl L).countP (fun x => x.kind == 2) : Nat) == 0) = r) := hr
  have HX : Hid (∀ i x, L[i]? = some x → (∃ b off, ao = some ⟨b, off, none⟩ ∧ b < w.heap.size ∧ eight w b (off + i * 8) x) ∧ Good S w x) := hx
  obtain ⟨n, hn⟩ : ∃ n, L.length = n := ⟨_, rfl⟩
  have HN : Hid (L.length = n) := hn
  rw [hn, show ((0 : Nat) : Int) = 0 from rfl] at hV3
  rw [hn] at hL ⊢
  clear hv hd hseq hg3 hk3 hR hb0 hmine hg0 hxs hs0 hs3 hr hx hn
  refine (callsIn_wide (n := 9)).1 ?_
  refine callsIn_of_wp_marks Tryz.func34 rfl trivial ?_
  simp only [Tryz.ntmps34, List.size_toArray, List.length_cons, List.length_nil, Nat.reduceAdd, Nat.reduceSub, Array.replicate_succ, Array.replicate_zero, List.push_toArray, List.append_toArray, List.nil_append, List.cons_append]
  gi_wp2
  rw [← hW0]
  refine ⟨trivial, ?_⟩
  refine CallsIn.mono (callsIn_wide.2 (folders_any _ _ _ _ ⟨_, _, _, rfl⟩)) ?_
  rintro e' w' ⟨rfl, rfl⟩
  rw [← hV3]
  clear hV3 hW0
  gi_wp2
  refine range_law (gf := 73) (lb := #[PT (W0.heap.size + 1), PT (W0.heap.size + 1 + 1), PT W0.heap.size]) (encs := encF) (Bx := w.heap.size) (xs := xs) rfl (enters_of Tryz.func73 (by kernel_rfl) rfl) hb3 HSEQ.out (fun _ => rfl)
    (fun pre V => Boxed V w.heap.size 3 (.int .i64 (pre.length : Int)) ∧ Kp w.heap.size V3 V ∧ Below w.heap.size w V) (fun _ _ => False)
    (fun t A B row hs hg hr => ⟨(boxed_own w.heap.size 3 (fun t : List (Nat × ByteArray) => .int .i64 (t.length : Int))).from _ t A B row hs.1 hg hr, kp_own (β := Unit) hb3 (Nat.le_refl _) () A B row hs.2.1 hg hr, ownFrom_below (β := Unit) (Nat.le_refl _) (Nat.le_of_lt HS3.out) () A B row hs.2.2 hg hr⟩)
    (fun t A B row hs hg hr => hs)
    ⟨HR3.out, Kp.refl _ _, HB3.out⟩
    (fun z => { tmps := #[.slice ao n cap, undef, .bool false, PT w.heap.size, undef, undef, .slice ao n cap, .func (.func 73) #[] #[PT (W0.heap.size + 1), PT (W0.heap.size + 1 + 1), PT W0.heap.size], .int .i64 (z.1 : Int), .string z.2, undef, undef, undef, undef, undef, undef, undef, undef, undef, undef, undef, undef, undef, undef, undef], defers := [] }) ?assign ?body ?done ?stop
  case assign =>
    intro l' m' z V4 K hK
    unfold encF
    gi_wp2
    simp
    exact hK
  case body =>
    rintro l' m' pre z V4 hl' hpz ⟨hR4, hK4, hB4⟩
    have hpl : pre.length < 24 := by
      have := hpz.length_le
      simp only [List.length_append, List.length_cons, List.length_nil] at this
      omega
    have cr := hR4.cell
    have fr := hR4.frozen
    have HR4 : Hid (Boxed V4 w.heap.size 3 (.int .i64 (pre.length : Int))) := hR4
    have HK4 : Hid (Kp w.heap.size V3 V4) := hK4
    have HB4 : Hid (Below w.heap.size w V4) := hB4
    have HLN : Hid ((pre ++ [z]).length = pre.length + 1) := by show (pre ++ [z]).length = pre.length + 1; simp
    obtain ⟨pl', hpl'⟩ : ∃ k, pre.length = k := ⟨_, rfl⟩
    rw [hpl'] at cr hpl
    have HPL : Hid (pre.length = pl') := hpl'
    clear hR4 hK4 hB4 hpz hpl'
    gi_wp2
    have hks : Kp w.heap.size V4 (V4.setCell ⟨w.heap.size, 0, none⟩ (.int .i64 ((pl' : Int) + 1))) := kp_set HR4.out (by intro k e; cases e)
    refine ⟨hks, ?_, HK4.out.trans hks, HB4.out.setCell (p := ⟨w.heap.size, 0, none⟩) (Nat.le_refl _) _⟩
    rw [HLN.out, HPL.out]
    exact HR4.out.set _
  case done =>
    rintro D V5 hD ⟨hR5, hK5, hB5⟩ hdf
    have HD5 : Hid (V5.heap[D]? = some (.deferred (some [])) ∧ w.heap.size < D) := ⟨hdf, Nat.lt_of_lt_of_le HS3.out hD⟩
    have HB5 : Hid (Below w.heap.size w V5) := hB5
    have HR5 : Hid (Boxed V5 w.heap.size 3 (.int .i64 (xs.length : Int))) := hR5
    clear hR5 hK5 hB5 hdf hD
    gi_wp2
    gi_loopw [14] (fun i wr => ∃ k : Nat, k ≤ n ∧ i = .int .i64 k ∧ Hid (Boxed wr w.heap.size 3 (.int .i64 ((xs.length : Int) - ((pl (L.take k)).countP (fun x => x.kind == 2) : Nat)))) ∧ Hid (Below w.heap.size w wr) ∧ Hid (wr.heap[D]? = some (.deferred (some [])))) (fun i _ => n - (intOf i).toNat)
    case atStart => exact ⟨0, Nat.zero_le _, rfl, (show Boxed V5 w.heap.size 3 (.int .i64 ((xs.length : Int) - ((pl (L.take 0)).countP (fun x => x.kind == 2) : Nat))) from by simpa using HR5.out), HB5.out, HD5.out.1⟩
    case round =>
      obtain ⟨k, hk, rfl, HRB, HB, HDF⟩ := hrel
      have hsz := HB.out.size
      have cr := HRB.out.cell
      have fr := HRB.out.frozen
      have hrl := HRB.out.lt
      have HCB : Hid ((pl (L.take k)).countP (fun x => x.kind == 2) ≤ 24) := by
        show (pl (L.take k)).countP (fun x => x.kind == 2) ≤ 24
        refine Nat.le_trans List.countP_le_length ?_
        simp only [List.length_map, List.length_take]
        omega
      obtain ⟨q, hq⟩ : ∃ q : Int, (xs.length : Int) - ((pl (L.take k)).countP (fun x => x.kind == 2) : Nat) = q := ⟨_, rfl⟩
      have hqb : -24 ≤ q ∧ q ≤ 24 := by have := HCB.out; omega
      rw [hq] at cr HRB
      have HQ : Hid ((xs.length : Int) - ((pl (L.take k)).countP (fun x => x.kind == 2) : Nat) = q) := hq
      clear hq
      by_cases hlt : k < n
      · obtain ⟨x, hxk⟩ : ∃ x, L[k]? = some x := ⟨_, List.getElem?_eq_getElem (by rw [HN.out]; exact hlt)⟩
        obtain ⟨⟨b, off, rfl, hB, hc⟩, -⟩ := HX.out k x hxk
        obtain ⟨c0, c1, c2, c3, c4, c5, c6, c7⟩ := hc.below HB.out hB
        have hlt' : (k : Int) < (n : Int) := by omega
        have HSU : Hid ((pl (L.take (k + 1))).countP (fun x => x.kind == 2) = (pl (L.take k)).countP (fun x => x.kind == 2) + if x.i.kind == 2 then 1 else 0) := by
          show (pl (L.take (k + 1))).countP (fun x => x.kind == 2) = _
          rw [List.take_add_one, hxk]
          simp [pl, List.countP_append, List.countP_cons]
        obtain ⟨V2, hV2⟩ : ∃ V2, V2 = (wr.alloc (BIx x)).alloc (BIx x) := ⟨_, rfl⟩
        have hg2 : wr.grownBy V2 none := by rw [hV2]; exact grown_trans (World.grownBy_alloc _ _ none) (World.grownBy_alloc _ _ none)
        have HR2 : Hid (Boxed V2 w.heap.size 3 (.int .i64 q)) := HRB.out.kept hg2 (by simp)
        have HB2 : Hid (Below w.heap.size w V2) := HB.out.trans ((below_none hg2 (Nat.le_refl _)).mono hsz)
        have HD2 : Hid (V2.heap[D]? = some (.deferred (some []))) := (hg2.block D (Array.getElem?_eq_some_iff.1 HDF.out).1 (by simp)).trans HDF.out
        clear hc hxk cr fr hg2
        by_cases hkd : x.i.kind = 2
        · have hkb : (x.i.kind == 2) = true := by simp [hkd]
          have HS2 : Hid (((xs.length : Int) - ((pl (L.take (k + 1))).countP (fun x => x.kind == 2) : Nat)) = q - 1) := by
            show (xs.length : Int) - ((pl (L.take (k + 1))).countP (fun x => x.kind == 2) : Nat) = q - 1
            have := HSU.out
            rw [hkb] at this
            rw [this, ← HQ.out]
            simp
            omega
          clear hkd
          have cr := HR2.out.cell
          have fr := HR2.out.frozen
          gi_wp2
          refine ⟨trivial, ?_⟩
          refine CallsIn.mono (callsIn_wide.2 (isDir_any x _)) ?_
          rintro e' w' ⟨rfl, rfl⟩
          rw [← hV2, hkb]
          clear hV2
          gi_wp2
          go_roundw
          case rel => exact ⟨k + 1, by omega, by go_num, by rw [HS2.out]; exact HR2.out.set _, HB2.out.setCell (p := ⟨w.heap.size, 0, none⟩) (Nat.le_refl _) _, (KeepsOthers.setCell V2 _ _).same D _ HD2.out rfl⟩
          case measure => simp [intOf]; omega
        · have hkb : (x.i.kind == 2) = false := beq_eq_false_iff_ne.2 hkd
          have HS2 : Hid (((xs.length : Int) - ((pl (L.take (k + 1))).countP (fun x => x.kind == 2) : Nat)) = q) := by
            show (xs.length : Int) - ((pl (L.take (k + 1))).countP (fun x => x.kind == 2) : Nat) = q
            have := HSU.out
            rw [hkb] at this
            rw [this, ← HQ.out]
            simp
          clear hkd
          gi_wp2
          refine ⟨trivial, ?_⟩
          refine CallsIn.mono (callsIn_wide.2 (isDir_any x _)) ?_
          rintro e' w' ⟨rfl, rfl⟩
          rw [← hV2, hkb]
          clear hV2
          gi_wp2
          go_roundw
          case rel => exact ⟨k + 1, by omega, by go_num, by rw [HS2.out]; exact HR2.out, HB2.out, HD2.out⟩
          case measure => simp [intOf]; omega
      · obtain rfl : n = k := by omega
        have HQ2 : Hid ((q == 0) = r) := by
          show (q == 0) = r
          rw [← HQ.out, List.take_of_length_le (by rw [HN.out]; exact Nat.le_refl _)]
          exact HRV.out
        gi_wp2
        refine ⟨by simp, .inl ⟨_, _, rfl, run_takeDeferred HDF.out, ?_⟩⟩
        refine ⟨_, results_tmp rfl _ _ _, ?_, ?_⟩
        · rw [← HQ2.out]
          rfl
        · exact HB.out.grown (grownBy_putObj' _ _ _) hsz (fun k e => by cases e; have := HD5.out.2; omega)
  case stop =>
    rintro D pre V5 hD hpre h hdf
    exact h.elim
end Go.Proofs.YtacghcoikekfeaaGreat
