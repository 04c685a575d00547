/-
  space.inside, space.reached: what they answer.
-/
import Derived.Test.YtacghcoikekfeaaGreatFol
import Derived.Test.YtacghcoikekfeaaGreatSpT
namespace Go.Proofs.YtacghcoikekfeaaGreat
open Go.ChangeShapes Go.WideShapes Go.ChangeAt Go.RowKit Go.Deep Go.Shelf It
set_option maxRecDepth 100000
attribute [local go_sem] Oper.semAt_some
theorem tab_low {S : Nat → Prop} {w : World} {v : Value} {L : List Rw} (h : TabAt S w v L) : TabAt (fun b => b < w.heap.size) w v L :=
  ⟨h.1.imp fun _ _ hb => hb, fun x hx => ⟨(h.2 x hx).1.imp fun _ _ hb => hb, (h.2 x hx).2.1.imp fun _ _ hb => hb, (h.2 x hx).2.2⟩⟩
theorem tab_up {n₀ : Nat} {w V : World} {v : Value} {L : List Rw} (h : TabAt (fun b => b < n₀) w v L) (hg : w.grownBy V none) : TabAt (fun b => b < n₀) V v L :=
  have k : ∀ b, b < n₀ → b < w.heap.size → V.heap[b]? = w.heap[b]? ∧ b < n₀ := fun b hb hl => ⟨hg.block b hl (by simp), hb⟩
  ⟨h.1.keep hg.size k, fun x hx => ⟨(h.2 x hx).1.keep hg.size k, (h.2 x hx).2.1.keep hg.size k, (h.2 x hx).2.2⟩⟩
/-- The three boxes that folders lays. -/
abbrev box3 (V : World) (v : Value) (no : Int) (path : ByteArray) : World := ((V.alloc (.cells #[v] 22)).alloc (.cells #[.int .i64 no] 3)).alloc (.cells #[.string path] 9)
theorem folders_seq {L : List Rw} {ao : Option Addr} {cap n₀ Bx f no : Nat} {path : ByteArray} {V2 : World} (hdeep : Sp.deep (pl L) f no) (hpath : path.size + 33 * f ≤ 1000) (hLn : L.length ≤ 1000) (hn0 : n₀ ≤ V2.heap.size) (htab : TabAt (fun b => b < n₀) V2 (.slice ao L.length cap) L) (hb : HasBox Bx V2) (hsafe : ∀ b, b < n₀ → ¬ Mine Bx V2 b) :
    SeqOwn Tryz.prog 73 #[PT (V2.heap.size + 1), PT (V2.heap.size + 1 + 1), PT V2.heap.size] encF Bx (Sp.walk (pl L) f no path) (box3 V2 (.slice ao L.length cap) no path) ∧ V2.grownBy (box3 V2 (.slice ao L.length cap) no path) none ∧ (box3 V2 (.slice ao L.length cap) no path).heap.size = V2.heap.size + 3 ∧ Kp Bx V2 (box3 V2 (.slice ao L.length cap) no path) ∧ HasBox Bx (box3 V2 (.slice ao L.length cap) no path) := by
  have hg3 : V2.grownBy (box3 V2 (.slice ao L.length cap) no path) none := grown_trans (grown_trans (World.grownBy_alloc _ _ none) (World.grownBy_alloc _ _ none)) (World.grownBy_alloc _ _ none)
  have hk3 : Kp Bx V2 (box3 V2 (.slice ao L.length cap) no path) := Kp.still hb hg3
  have t0 : (box3 V2 (.slice ao L.length cap) no path).cell? ⟨V2.heap.size, 0, none⟩ = some (.slice ao L.length cap) := by
    refine (cell_older (by simp; omega) _ 0).trans ((cell_older (by simp) _ 0).trans ?_)
    simp only [World.cell?, heap_alloc_new V2 (.cells #[.slice ao L.length cap] 22)]
    rfl
  have t1 : (box3 V2 (.slice ao L.length cap) no path).cell? ⟨V2.heap.size + 1, 0, none⟩ = some (.int .i64 (no : Int)) := by
    refine (cell_older (by simp) _ 0).trans ?_
    have := heap_alloc_new (V2.alloc (.cells #[.slice ao L.length cap] 22)) (.cells #[.int .i64 (no : Int)] 3)
    rw [show (V2.alloc (.cells #[.slice ao L.length cap] 22)).heap.size = V2.heap.size + 1 by simp] at this
    simp only [World.cell?, this]
    rfl
  have t2 : (box3 V2 (.slice ao L.length cap) no path).cell? ⟨V2.heap.size + 1 + 1, 0, none⟩ = some (.string path) := by
    have := heap_alloc_new ((V2.alloc (.cells #[.slice ao L.length cap] 22)).alloc (.cells #[.int .i64 (no : Int)] 3)) (.cells #[.string path] 9)
    rw [show ((V2.alloc (.cells #[.slice ao L.length cap] 22)).alloc (.cells #[.int .i64 (no : Int)] 3)).heap.size = V2.heap.size + 1 + 1 by simp] at this
    simp only [World.cell?, this]
    rfl
  exact ⟨iter_in L ao cap n₀ Bx f no path _ _ _ _ hdeep hpath hLn (Nat.le_trans hn0 hk3.size) (tab_kp htab hk3 hsafe) (hk3.box hb) (fun b h => hk3.safe (hsafe b h) (Nat.lt_of_lt_of_le h hn0)) ⟨t1, t2, t0⟩ ⟨hb.new hg3 (by omega), hb.new hg3 (by omega), hb.new hg3 (Nat.le_refl _)⟩, hg3, by simp, hk3, hk3.box hb⟩
theorem leaves_cell {n B : Nat} {tmps : Array Value} {R : Ending → World → Prop} {W : World} {v : Value} (hb : Boxed W B 4 v) (h : R (.returned v) W) (ht : tmps.getD 6 undef = PT B := by rfl) : LeavesInM Fence.wide n Tryz.prog Tryz.f96 tmps R [] .returning W := by
  refine ⟨v, ?_, h⟩
  rw [results_cell1 rfl, ht]
  have hc := hb.cell
  go_simp
set_option maxRecDepth 100000 in
set_option maxHeartbeats 4000000 in
theorem inside_any {S : Nat → Prop} (v : Value) (L : List Rw) (no : Nat) (to : Int) (w : World) (hv : TabAt S w v L) (hd : Sp.deep (pl L) 24 no) (hL : L.length ≤ 1000) :
    Calls Tryz.prog 96 #[v, .int .i64 no, .int .i64 to] w fun e w' => e = .returned (.bool ((Sp.walk (pl L) 24 no ⟨#[]⟩).any fun z => (z.1 : Int) == to)) ∧ Below w.heap.size w w' := by
  obtain ⟨ao, cap, rfl, -, -⟩ := hv.open
  obtain ⟨W0, hW0⟩ : ∃ W0, W0 = (w.alloc (.cells #[.int .i64 to] 3)).alloc (.cells #[.bool false] 4) := ⟨_, rfl⟩
  have hg0 : w.grownBy W0 none := by rw [hW0]; exact grown_trans (World.grownBy_alloc _ _ none) (World.grownBy_alloc _ _ none)
  have hs0 : W0.heap.size = w.heap.size + 2 := by rw [hW0]; simp
  have hR : Boxed W0 (w.heap.size + 1) 4 (.bool false) := by
    have := Boxed.new (w.alloc (.cells #[.int .i64 to] 3)) 4 (.bool false)
    rw [show (w.alloc (.cells #[.int .i64 to] 3)).heap.size = w.heap.size + 1 by simp] at this
    rw [hW0]
    exact this
  have hT : Boxed W0 w.heap.size 3 (.int .i64 to) := by rw [hW0]; exact (Boxed.new w 3 _).alloc _
  have hb0 : HasBox (w.heap.size + 1) W0 := ⟨_, hR.cell, fun k e => by cases e⟩
  have hmine : ∀ k, k ≠ w.heap.size + 1 → ¬ Mine (w.heap.size + 1) W0 k := fun k hk h => by
    rcases h with h | ⟨u, hu, he⟩
    · exact hk h
    · rw [hR.cell] at hu
      cases hu
      cases he
  obtain ⟨hseq, hg3, hs3, hk3, hb3⟩ := folders_seq (n₀ := w.heap.size) (Bx := w.heap.size + 1) (f := 24) (no := no) (path := ⟨#[]⟩) (V2 := W0) hd (by decide) hL (by omega) (tab_up (tab_low hv) hg0) hb0 (fun b hb => hmine b (by omega))
  unfold box3 at hseq hg3 hs3 hk3 hb3
  obtain ⟨V3, hV3⟩ : ∃ V3, V3 = ((W0.alloc (.cells #[.slice ao L.length cap] 22)).alloc (.cells #[.int .i64 (no : Int)] 3)).alloc (.cells #[.string ⟨#[]⟩] 9) := ⟨_, rfl⟩
  rw [← hV3] at hseq hg3 hs3 hk3 hb3
  have HSEQ : Hid (SeqOwn Tryz.prog 73 #[PT (W0.heap.size + 1), PT (W0.heap.size + 1 + 1), PT W0.heap.size] encF (w.heap.size + 1) (Sp.walk (pl L) 24 no ⟨#[]⟩) V3) := hseq
  have HB3 : Hid (Below w.heap.size w V3) := below_none (grown_trans hg0 hg3) (Nat.le_refl _)
  have HR3 : Hid (Boxed V3 (w.heap.size + 1) 4 (.bool false)) := hR.kept hg3 (by simp)
  have HT3 : Hid (Boxed V3 w.heap.size 3 (.int .i64 to)) := hT.kept hg3 (by simp)
  have HTM : Hid (¬ Mine (w.heap.size + 1) V3 w.heap.size) := hk3.safe (hmine _ (by omega)) (by omega)
  obtain ⟨xs, hxs⟩ : ∃ xs, Sp.walk (pl L) 24 no ⟨#[]⟩ = xs := ⟨_, rfl⟩
  rw [hxs] at HSEQ ⊢
  obtain ⟨r, hr⟩ : ∃ r, (xs.any fun z => (z.1 : Int) == to) = r := ⟨_, rfl⟩
  rw [hr]
  have HRV : Hid ((xs.any fun z => (z.1 : Int) == to) = r) := hr
  clear hr
  have HS3 : Hid (w.heap.size ≤ V3.heap.size) := by show w.heap.size ≤ V3.heap.size; omega
  clear hv hd hseq hg3 hk3 hR hT hb0 hmine hg0 hxs hs0 hs3
  refine (callsIn_wide (n := 9)).1 ?_
  refine callsIn_of_wp_marks Tryz.func96 rfl trivial ?_
  simp only [Tryz.ntmps96, List.size_toArray, List.length_cons, List.length_nil, Nat.reduceAdd, Nat.reduceSub, Array.replicate_succ, Array.replicate_zero, List.push_toArray, List.append_toArray, List.nil_append, List.cons_append]
  gi_wp2
  rw [← hW0]
  refine ⟨trivial, ?_⟩
  refine CallsIn.mono (callsIn_wide.2 (folders_any _ _ _ _ ⟨_, _, _, rfl⟩)) ?_
  rintro e' w' ⟨rfl, rfl⟩
  rw [← hV3]
  clear hV3 hW0
  gi_wp2
  refine range_law (gf := 73) (lb := #[PT (W0.heap.size + 1), PT (W0.heap.size + 1 + 1), PT W0.heap.size]) (encs := encF) (Bx := w.heap.size + 1) (xs := xs) rfl (enters_of Tryz.func73 (by kernel_rfl) rfl) hb3 HSEQ.out (fun _ => rfl)
    (fun pre V => (Boxed V (w.heap.size + 1) 4 (.bool false) ∧ Kp (w.heap.size + 1) V3 V ∧ Below w.heap.size w V) ∧ ∀ z ∈ pre, (z.1 : Int) ≠ to)
    (fun pre V => (Boxed V (w.heap.size + 1) 4 (.bool true) ∧ Below w.heap.size w V) ∧ ∃ z ∈ pre, (z.1 : Int) = to)
    (fun t A B row hs hg hr => ⟨⟨(boxed_own (β := Unit) _ 4 (fun _ => .bool false)).from _ () A B row hs.1.1 hg hr, kp_own (β := Unit) hb3 (Nat.le_refl _) () A B row hs.1.2.1 hg hr, ownFrom_below (β := Unit) (Nat.le_refl _) HS3.out () A B row hs.1.2.2 hg hr⟩, hs.2⟩)
    (fun t A B row hs hg hr => ⟨⟨(boxed_own (β := Unit) _ 4 (fun _ => .bool true)).from _ () A B row hs.1.1 hg hr, ownFrom_below (β := Unit) (Nat.le_refl _) HS3.out () A B row hs.1.2 hg hr⟩, hs.2⟩)
    ⟨⟨HR3.out, Kp.refl _ _, HB3.out⟩, fun z hz => (by cases hz)⟩
    (fun z => { tmps := #[.slice ao L.length cap, .int .i64 (no : Int), .int .i64 to, undef, undef, PT w.heap.size, PT (w.heap.size + 1), .int .i64 (z.1 : Int), .slice ao L.length cap, .int .i64 (no : Int), .func (.func 73) #[] #[PT (W0.heap.size + 1), PT (W0.heap.size + 1 + 1), PT W0.heap.size], .int .i64 (z.1 : Int), .string z.2, undef, undef, undef], defers := [] }) ?assign ?body ?done ?stop
  case assign =>
    intro l' m' z V4 K hK
    unfold encF
    gi_wp2
    exact hK
  case body =>
    rintro l' m' pre z V4 hl' hpz ⟨⟨hR4, hK4, hB4⟩, hne⟩
    have ct : V4.cell? ⟨w.heap.size, 0, none⟩ = some (.int .i64 to) := (hK4.cell HTM.out HT3.out.lt).trans HT3.out.cell
    have cr := hR4.cell
    have fr := hR4.frozen
    have HK4 : Hid (Kp (w.heap.size + 1) V3 V4) := hK4
    have HR4 : Hid (Boxed V4 (w.heap.size + 1) 4 (.bool false)) := hR4
    have HB4 : Hid (Below w.heap.size w V4) := hB4
    have HNE : Hid (∀ z ∈ pre, (z.1 : Int) ≠ to) := hne
    clear hR4 hK4 hB4 hne hpz
    by_cases he : (z.1 : Int) = to
    · have heb : ((z.1 : Int) == to) = true := by simp [he]
      have HE : Hid ((z.1 : Int) = to) := he
      clear he
      gi_wp2
      exact ⟨(KeepsOthers.setCell _ _ _).from _, ⟨HR4.out.set _, HB4.out.setCell (p := ⟨w.heap.size + 1, 0, none⟩) (by simp) _⟩, z, by simp, HE.out⟩
    · have heb : ((z.1 : Int) == to) = false := beq_eq_false_iff_ne.2 he
      have HE : Hid ((z.1 : Int) ≠ to) := he
      clear he
      gi_wp2
      exact ⟨Kp.refl _ _, ⟨HR4.out, HK4.out, HB4.out⟩, fun y hy => by
        rcases List.mem_append.1 hy with hy | hy
        · exact HNE.out y hy
        · rw [List.mem_singleton.1 hy]
          exact HE.out⟩
  case done =>
    rintro D V5 hD ⟨⟨hR5, hK5, hB5⟩, hne⟩ hdf
    have hv : (xs.any fun z => (z.1 : Int) == to) = false := List.any_eq_false.2 fun z hz => by have := hne z hz; simpa using this
    obtain rfl : r = false := HRV.out.symm.trans hv
    have cr := hR5.cell
    have fr := hR5.frozen
    gi_wp2
    have hdf' := (KeepsOthers.setCell V5 ⟨w.heap.size + 1, 0, none⟩ (.bool false)).same D _ hdf rfl
    refine ⟨by simp, .inl ⟨_, _, rfl, run_takeDeferred hdf', ?_⟩⟩
    have hR6 : Boxed ((V5.setCell ⟨w.heap.size + 1, 0, none⟩ (.bool false)).putObj D (.deferred none)) (w.heap.size + 1) 4 (.bool false) := (hR5.set _).kept (grownBy_putObj' _ _ _) (by rintro ⟨⟩; rw [show V5.heap[w.heap.size + 1]? = _ from hR5] at hdf; cases hdf)
    have hB6 : Below w.heap.size w ((V5.setCell ⟨w.heap.size + 1, 0, none⟩ (.bool false)).putObj D (.deferred none)) := (hB5.setCell (p := ⟨w.heap.size + 1, 0, none⟩) (by simp) _).grown (grownBy_putObj' _ _ _) (by have := hB5.size; simpa using this) (fun k e => by cases e; have := HS3.out; omega)
    exact leaves_cell hR6 ⟨rfl, hB6⟩
  case stop =>
    rintro D pre V5 hD hpre ⟨⟨hR5, hB5⟩, hex⟩ hdf
    have hv : (xs.any fun z => (z.1 : Int) == to) = true := by
      obtain ⟨z, hz, he⟩ := hex
      exact List.any_eq_true.2 ⟨z, hpre.subset hz, by simp [he]⟩
    obtain rfl : r = true := HRV.out.symm.trans hv
    gi_wp2
    refine ⟨by simp, .inl ⟨_, _, rfl, run_takeDeferred hdf, ?_⟩⟩
    have hR6 : Boxed (V5.putObj D (.deferred none)) (w.heap.size + 1) 4 (.bool true) := hR5.kept (grownBy_putObj' _ _ _) (by rintro ⟨⟩; rw [show V5.heap[w.heap.size + 1]? = _ from hR5] at hdf; cases hdf)
    have hB6 : Below w.heap.size w (V5.putObj D (.deferred none)) := hB5.grown (grownBy_putObj' _ _ _) hB5.size (fun k e => by cases e; have := HS3.out; omega)
    exact leaves_cell hR6 ⟨rfl, hB6⟩
end Go.Proofs.YtacghcoikekfeaaGreat
