/-
  The texts Ins, Mp, Cnt0, SpC, SRef9, SRef10, SRef11, Sp18, Sp19, RefB, RefM, SRef12, as one.
-/
import Derived.Maps.RangeRun
import Derived.Laws.IdiomRangeMap
import Derived.RangeFuncOwn
import Derived.Test.YtacghcoikekfeaaM7
/- Ins -/
namespace Go.Proofs.Ytacghcoikekfeaa
open Go.ChangeShapes Go.WideShapes Go.ChangeAt Go.RowKit Go.Deep Go.Shelf It
set_option maxRecDepth 100000
attribute [local go_sem] Oper.semAt_some
theorem tab_low {S : Nat → Prop} {w : World} {v : Value} {L : List Rw} (h : TabAt S w v L) : TabAt (fun b => b < w.heap.size) w v L :=
  ⟨h.1.imp fun _ _ hb => hb, fun x hx => ⟨(h.2 x hx).1.imp fun _ _ hb => hb, (h.2 x hx).2.1.imp fun _ _ hb => hb, (h.2 x hx).2.2⟩⟩
theorem tab_up {n₀ : Nat} {w V : World} {v : Value} {L : List Rw} (h : TabAt (fun b => b < n₀) w v L) (hg : w.grownBy V none) : TabAt (fun b => b < n₀) V v L :=
  have k : ∀ b, b < n₀ → b < w.heap.size → V.heap[b]? = w.heap[b]? ∧ b < n₀ := fun b hb hl => ⟨hg.block b hl (by simp), hb⟩
  ⟨h.1.keep hg.size k, fun x hx => ⟨(h.2 x hx).1.keep hg.size k, (h.2 x hx).2.1.keep hg.size k, (h.2 x hx).2.2⟩⟩
/-- The three boxes that folders lays. -/
abbrev box3 (V : World) (v : Value) (no : Int) (path : ByteArray) : World := ((V.alloc (.cells #[v] 27)).alloc (.cells #[.int .i64 no] 3)).alloc (.cells #[.string path] 9)
theorem folders_seq {L : List Rw} {ao : Option Addr} {cap n₀ Bx f no : Nat} {path : ByteArray} {V2 : World} (hdeep : Sp.deep (pl L) f no) (hpath : path.size + 33 * f ≤ 1000) (hLn : L.length ≤ 1000) (hn0 : n₀ ≤ V2.heap.size) (htab : TabAt (fun b => b < n₀) V2 (.slice ao L.length cap) L) (hb : HasBox Bx V2) (hsafe : ∀ b, b < n₀ → ¬ Mine Bx V2 b) :
    SeqOwn Try.prog 38 #[PT (V2.heap.size + 1), PT (V2.heap.size + 1 + 1), PT V2.heap.size] encF Bx (Sp.walk (pl L) f no path) (box3 V2 (.slice ao L.length cap) no path) ∧ V2.grownBy (box3 V2 (.slice ao L.length cap) no path) none ∧ (box3 V2 (.slice ao L.length cap) no path).heap.size = V2.heap.size + 3 ∧ Kp Bx V2 (box3 V2 (.slice ao L.length cap) no path) ∧ HasBox Bx (box3 V2 (.slice ao L.length cap) no path) := by
  have hg3 : V2.grownBy (box3 V2 (.slice ao L.length cap) no path) none := grown_trans (grown_trans (World.grownBy_alloc _ _ none) (World.grownBy_alloc _ _ none)) (World.grownBy_alloc _ _ none)
  have hk3 : Kp Bx V2 (box3 V2 (.slice ao L.length cap) no path) := Kp.still hb hg3
  have t0 : (box3 V2 (.slice ao L.length cap) no path).cell? ⟨V2.heap.size, 0, none⟩ = some (.slice ao L.length cap) := by
    refine (cell_older (by simp; omega) _ 0).trans ((cell_older (by simp) _ 0).trans ?_)
    simp only [World.cell?, heap_alloc_new V2 (.cells #[.slice ao L.length cap] 27)]
    rfl
  have t1 : (box3 V2 (.slice ao L.length cap) no path).cell? ⟨V2.heap.size + 1, 0, none⟩ = some (.int .i64 (no : Int)) := by
    refine (cell_older (by simp) _ 0).trans ?_
    have := heap_alloc_new (V2.alloc (.cells #[.slice ao L.length cap] 27)) (.cells #[.int .i64 (no : Int)] 3)
    rw [show (V2.alloc (.cells #[.slice ao L.length cap] 27)).heap.size = V2.heap.size + 1 by simp] at this
    simp only [World.cell?, this]
    rfl
  have t2 : (box3 V2 (.slice ao L.length cap) no path).cell? ⟨V2.heap.size + 1 + 1, 0, none⟩ = some (.string path) := by
    have := heap_alloc_new ((V2.alloc (.cells #[.slice ao L.length cap] 27)).alloc (.cells #[.int .i64 (no : Int)] 3)) (.cells #[.string path] 9)
    rw [show ((V2.alloc (.cells #[.slice ao L.length cap] 27)).alloc (.cells #[.int .i64 (no : Int)] 3)).heap.size = V2.heap.size + 1 + 1 by simp] at this
    simp only [World.cell?, this]
    rfl
  exact ⟨iter_in L ao cap n₀ Bx f no path _ _ _ _ hdeep hpath hLn (Nat.le_trans hn0 hk3.size) (tab_kp htab hk3 hsafe) (hk3.box hb) (fun b h => hk3.safe (hsafe b h) (Nat.lt_of_lt_of_le h hn0)) ⟨t1, t2, t0⟩ ⟨hb.new hg3 (by omega), hb.new hg3 (by omega), hb.new hg3 (Nat.le_refl _)⟩, hg3, by simp, hk3, hk3.box hb⟩
theorem leaves_cell {n B : Nat} {tmps : Array Value} {R : Ending → World → Prop} {W : World} {v : Value} (hb : Boxed W B 4 v) (h : R (.returned v) W) (ht : tmps.getD 6 undef = PT B := by rfl) : LeavesInM Fence.wide n Try.prog Try.f51 tmps R [] .returning W := by
  refine ⟨v, ?_, h⟩
  rw [results_cell1 rfl, ht]
  have hc := hb.cell
  go_simp
set_option maxRecDepth 100000 in
set_option maxHeartbeats 4000000 in
theorem inside_any {S : Nat → Prop} (v : Value) (L : List Rw) (no : Nat) (to : Int) (w : World) (hv : TabAt S w v L) (hd : Sp.deep (pl L) 24 no) (hL : L.length ≤ 1000) :
    Calls Try.prog 51 #[v, .int .i64 no, .int .i64 to] w fun e w' => e = .returned (.bool ((Sp.walk (pl L) 24 no ⟨#[]⟩).any fun z => (z.1 : Int) == to)) ∧ Below w.heap.size w w' := by
  obtain ⟨ao, cap, rfl, -, -⟩ := hv.open
  obtain ⟨W0, hW0⟩ : ∃ W0, W0 = (w.alloc (.cells #[.int .i64 to] 3)).alloc (.cells #[.bool false] 4) := ⟨_, rfl⟩
  have hg0 : w.grownBy W0 none := by rw [hW0]; exact grown_trans (World.grownBy_alloc _ _ none) (World.grownBy_alloc _ _ none)
  have hs0 : W0.heap.size = w.heap.size + 2 := by rw [hW0]; simp
  have hR : Boxed W0 (w.heap.size + 1) 4 (.bool false) := by
    have := Boxed.new (w.alloc (.cells #[.int .i64 to] 3)) 4 (.bool false)
    rw [show (w.alloc (.cells #[.int .i64 to] 3)).heap.size = w.heap.size + 1 by simp] at this
    rw [hW0]
    exact this
  have hT : Boxed W0 w.heap.size 3 (.int .i64 to) := by rw [hW0]; exact (Boxed.new w 3 _).alloc _
  have hb0 : HasBox (w.heap.size + 1) W0 := ⟨_, hR.cell, fun k e => by cases e⟩
  have hmine : ∀ k, k ≠ w.heap.size + 1 → ¬ Mine (w.heap.size + 1) W0 k := fun k hk h => by
    rcases h with h | ⟨u, hu, he⟩
    · exact hk h
    · rw [hR.cell] at hu
      cases hu
      cases he
  obtain ⟨hseq, hg3, hs3, hk3, hb3⟩ := folders_seq (n₀ := w.heap.size) (Bx := w.heap.size + 1) (f := 24) (no := no) (path := ⟨#[]⟩) (V2 := W0) hd (by decide) hL (by omega) (tab_up (tab_low hv) hg0) hb0 (fun b hb => hmine b (by omega))
  unfold box3 at hseq hg3 hs3 hk3 hb3
  obtain ⟨V3, hV3⟩ : ∃ V3, V3 = ((W0.alloc (.cells #[.slice ao L.length cap] 27)).alloc (.cells #[.int .i64 (no : Int)] 3)).alloc (.cells #[.string ⟨#[]⟩] 9) := ⟨_, rfl⟩
  rw [← hV3] at hseq hg3 hs3 hk3 hb3
  have HSEQ : Hid (SeqOwn Try.prog 38 #[PT (W0.heap.size + 1), PT (W0.heap.size + 1 + 1), PT W0.heap.size] encF (w.heap.size + 1) (Sp.walk (pl L) 24 no ⟨#[]⟩) V3) := hseq
  have HB3 : Hid (Below w.heap.size w V3) := below_none (grown_trans hg0 hg3) (Nat.le_refl _)
  have HR3 : Hid (Boxed V3 (w.heap.size + 1) 4 (.bool false)) := hR.kept hg3 (by simp)
  have HT3 : Hid (Boxed V3 w.heap.size 3 (.int .i64 to)) := hT.kept hg3 (by simp)
  have HTM : Hid (¬ Mine (w.heap.size + 1) V3 w.heap.size) := hk3.safe (hmine _ (by omega)) (by omega)
  obtain ⟨xs, hxs⟩ : ∃ xs, Sp.walk (pl L) 24 no ⟨#[]⟩ = xs := ⟨_, rfl⟩
  rw [hxs] at HSEQ ⊢
  obtain ⟨r, hr⟩ : ∃ r, (xs.any fun z => (z.1 : Int) == to) = r := ⟨_, rfl⟩
  rw [hr]
  have HRV : Hid ((xs.any fun z => (z.1 : Int) == to) = r) := hr
  clear hr
  have HS3 : Hid (w.heap.size ≤ V3.heap.size) := by show w.heap.size ≤ V3.heap.size; omega
  clear hv hd hseq hg3 hk3 hR hT hb0 hmine hg0 hxs hs0 hs3
  refine (callsIn_wide (n := 9)).1 ?_
  refine callsIn_of_wp_marks Try.func51 rfl trivial ?_
  simp only [Try.ntmps51, List.size_toArray, List.length_cons, List.length_nil, Nat.reduceAdd, Nat.reduceSub, Array.replicate_succ, Array.replicate_zero, List.push_toArray, List.append_toArray, List.nil_append, List.cons_append]
  gi_wp2
  rw [← hW0]
  refine ⟨trivial, ?_⟩
  refine CallsIn.mono (callsIn_wide.2 (folders_any _ _ _ _ ⟨_, _, _, rfl⟩)) ?_
  rintro e' w' ⟨rfl, rfl⟩
  rw [← hV3]
  clear hV3 hW0
  gi_wp2
  refine range_law (gf := 38) (lb := #[PT (W0.heap.size + 1), PT (W0.heap.size + 1 + 1), PT W0.heap.size]) (encs := encF) (Bx := w.heap.size + 1) (xs := xs) rfl (enters_of Try.func38 (by kernel_rfl) rfl) hb3 HSEQ.out (fun _ => rfl)
    (fun pre V => (Boxed V (w.heap.size + 1) 4 (.bool false) ∧ Kp (w.heap.size + 1) V3 V ∧ Below w.heap.size w V) ∧ ∀ z ∈ pre, (z.1 : Int) ≠ to)
    (fun pre V => (Boxed V (w.heap.size + 1) 4 (.bool true) ∧ Below w.heap.size w V) ∧ ∃ z ∈ pre, (z.1 : Int) = to)
    (fun t A B row hs hg hr => ⟨⟨(boxed_own (β := Unit) _ 4 (fun _ => .bool false)).from _ () A B row hs.1.1 hg hr, kp_own (β := Unit) hb3 (Nat.le_refl _) () A B row hs.1.2.1 hg hr, ownFrom_below (β := Unit) (Nat.le_refl _) HS3.out () A B row hs.1.2.2 hg hr⟩, hs.2⟩)
    (fun t A B row hs hg hr => ⟨⟨(boxed_own (β := Unit) _ 4 (fun _ => .bool true)).from _ () A B row hs.1.1 hg hr, ownFrom_below (β := Unit) (Nat.le_refl _) HS3.out () A B row hs.1.2 hg hr⟩, hs.2⟩)
    ⟨⟨HR3.out, Kp.refl _ _, HB3.out⟩, fun z hz => (by cases hz)⟩
    (fun z => { tmps := #[.slice ao L.length cap, .int .i64 (no : Int), .int .i64 to, undef, undef, PT w.heap.size, PT (w.heap.size + 1), .int .i64 (z.1 : Int), .slice ao L.length cap, .int .i64 (no : Int), .func (.func 38) #[] #[PT (W0.heap.size + 1), PT (W0.heap.size + 1 + 1), PT W0.heap.size], .int .i64 (z.1 : Int), .string z.2, undef, undef, undef], defers := [] }) ?assign ?body ?done ?stop
  case assign =>
    intro l' m' z V4 K hK
    unfold encF
    gi_wp2
    exact hK
  case body =>
    rintro l' m' pre z V4 hl' hpz ⟨⟨hR4, hK4, hB4⟩, hne⟩
    have ct : V4.cell? ⟨w.heap.size, 0, none⟩ = some (.int .i64 to) := (hK4.cell HTM.out HT3.out.lt).trans HT3.out.cell
    have cr := hR4.cell
    have fr := hR4.frozen
    have HK4 : Hid (Kp (w.heap.size + 1) V3 V4) := hK4
    have HR4 : Hid (Boxed V4 (w.heap.size + 1) 4 (.bool false)) := hR4
    have HB4 : Hid (Below w.heap.size w V4) := hB4
    have HNE : Hid (∀ z ∈ pre, (z.1 : Int) ≠ to) := hne
    clear hR4 hK4 hB4 hne hpz
    by_cases he : (z.1 : Int) = to
    · have heb : ((z.1 : Int) == to) = true := by simp [he]
      have HE : Hid ((z.1 : Int) = to) := he
      clear he
      gi_wp2
      exact ⟨(KeepsOthers.setCell _ _ _).from _, ⟨HR4.out.set _, HB4.out.setCell (p := ⟨w.heap.size + 1, 0, none⟩) (by simp) _⟩, z, by simp, HE.out⟩
    · have heb : ((z.1 : Int) == to) = false := beq_eq_false_iff_ne.2 he
      have HE : Hid ((z.1 : Int) ≠ to) := he
      clear he
      gi_wp2
      exact ⟨Kp.refl _ _, ⟨HR4.out, HK4.out, HB4.out⟩, fun y hy => by
        rcases List.mem_append.1 hy with hy | hy
        · exact HNE.out y hy
        · rw [List.mem_singleton.1 hy]
          exact HE.out⟩
  case done =>
    rintro D V5 hD ⟨⟨hR5, hK5, hB5⟩, hne⟩ hdf
    have hv : (xs.any fun z => (z.1 : Int) == to) = false := List.any_eq_false.2 fun z hz => by have := hne z hz; simpa using this
    obtain rfl : r = false := HRV.out.symm.trans hv
    have cr := hR5.cell
    have fr := hR5.frozen
    gi_wp2
    have hdf' := (KeepsOthers.setCell V5 ⟨w.heap.size + 1, 0, none⟩ (.bool false)).same D _ hdf rfl
    refine ⟨by simp, .inl ⟨_, _, rfl, run_takeDeferred hdf', ?_⟩⟩
    have hR6 : Boxed ((V5.setCell ⟨w.heap.size + 1, 0, none⟩ (.bool false)).putObj D (.deferred none)) (w.heap.size + 1) 4 (.bool false) := (hR5.set _).kept (grownBy_putObj' _ _ _) (by rintro ⟨⟩; rw [show V5.heap[w.heap.size + 1]? = _ from hR5] at hdf; cases hdf)
    have hB6 : Below w.heap.size w ((V5.setCell ⟨w.heap.size + 1, 0, none⟩ (.bool false)).putObj D (.deferred none)) := (hB5.setCell (p := ⟨w.heap.size + 1, 0, none⟩) (by simp) _).grown (grownBy_putObj' _ _ _) (by have := hB5.size; simpa using this) (fun k e => by cases e; have := HS3.out; omega)
    exact leaves_cell hR6 ⟨rfl, hB6⟩
  case stop =>
    rintro D pre V5 hD hpre ⟨⟨hR5, hB5⟩, hex⟩ hdf
    have hv : (xs.any fun z => (z.1 : Int) == to) = true := by
      obtain ⟨z, hz, he⟩ := hex
      exact List.any_eq_true.2 ⟨z, hpre.subset hz, by simp [he]⟩
    obtain rfl : r = true := HRV.out.symm.trans hv
    gi_wp2
    refine ⟨by simp, .inl ⟨_, _, rfl, run_takeDeferred hdf, ?_⟩⟩
    have hR6 : Boxed (V5.putObj D (.deferred none)) (w.heap.size + 1) 4 (.bool true) := hR5.kept (grownBy_putObj' _ _ _) (by rintro ⟨⟩; rw [show V5.heap[w.heap.size + 1]? = _ from hR5] at hdf; cases hdf)
    have hB6 : Below w.heap.size w (V5.putObj D (.deferred none)) := hB5.grown (grownBy_putObj' _ _ _) hB5.size (fun k e => by cases e; have := HS3.out; omega)
    exact leaves_cell hR6 ⟨rfl, hB6⟩
end Go.Proofs.Ytacghcoikekfeaa
/- Mp -/
namespace Go.Proofs.Ytacghcoikekfeaa
open Go.ChangeShapes Go.WideShapes Go.ChangeAt Go.RowKit Go.Deep It
set_option maxRecDepth 100000
abbrev VHh (h : Int × Int) : Value := .agg #[.int .i64 h.1, .int .i64 h.2]
theorem equal_hand (w : World) (a b : Int × Int) : (Op.equal 24 (VHh a) (VHh b)).run Try.prog w = .ok (a == b) w := by
  have h1 : (binOp .eql 24 (VHh a) (VHh b)).run Try.prog w = .ok (.bool (a == b)) w := by
    obtain ⟨a0, a1⟩ := a
    obtain ⟨b0, b1⟩ := b
    have e : ((a0, a1) == (b0, b1)) = ((a0 == b0) && (a1 == b1)) := rfl
    rw [e]
    cases h0 : (a0 == b0) <;> cases h1 : (a1 == b1) <;> go_simp <;> simp [h0, h1]
  have h2 : (binOp .eql 24 (VHh a) (VHh b)).run Try.prog w = ((Op.equal 24 (VHh a) (VHh b)).run Try.prog w).andThen fun r w' => .ok (.bool r) w' := by
    unfold binOp
    simp only [Sem.run_bind, Sem.run_pure]
  rw [h1] at h2
  generalize (Op.equal 24 (VHh a) (VHh b)).run Try.prog w = r at h2
  cases r with
  | ok x w' =>
    simp only [Result.andThen, Result.ok.injEq, Value.bool.injEq] at h2
    rw [h2.1, h2.2]
  | halt x w' => cases h2
theorem check_hand (w : World) (em : Bool) (a : Int × Int) : (Instr.checkKey em 10000 24 (VHh a)).run Try.prog w = .ok () w := by
  have h3 : ∀ x : Int, (Instr.checkKey em 9999 3 (.int .i64 x)).run Try.prog w = .ok () w := fun x => by
    rw [show (9999 : Nat) = 9998 + 1 from rfl]
    unfold Instr.checkKey
    simp only [Sem.run_bind, run_underlying Try.underlying3, Result.andThen, Sem.run_pure]
  have p0 : (part 3 #[.int .i64 a.1, .int .i64 a.2] 0).run Try.prog w = .ok (.int .i64 a.1) w := by go_simp
  have p1 : (part 3 #[.int .i64 a.1, .int .i64 a.2] 1).run Try.prog w = .ok (.int .i64 a.2) w := by go_simp
  rw [show (10000 : Nat) = 9999 + 1 from rfl]
  unfold Instr.checkKey
  simp only [Sem.run_bind, run_underlying Try.underlying24, Result.andThen]
  simp only [List.forIn_toArray, List.forIn_cons, List.forIn_nil]
  simp [h3, p0, p1, Sem.run_bind, Result.andThen]
/-- The map's rows: each has its key, a number, and was laid at its own time. -/
structure HM (w : World) (r : Nat) (M : List ((Int × Int) × Int)) : Prop where
  out : ∃ es clock, w.heap[r]? = some (.map es clock) ∧ es.toList.map (fun e => (e.key, e.val)) = M.map (fun p => (VHh p.1, .int .i64 p.2)) ∧ (es.toList.map (·.born)).Nodup ∧ ∀ b ∈ es.toList.map (·.born), b < clock
/-- Where a handle's row stands, and what it has. -/
def mfind : List ((Int × Int) × Int) → (Int × Int) → Nat → Option (Nat × Int)
  | [], _, _ => none
  | p :: M, h, i => if h == p.1 then some (i, p.2) else mfind M h (i + 1)
def mval (M : List ((Int × Int) × Int)) (h : Int × Int) : Int := match mfind M h 0 with | some p => p.2 | none => 0
def mset (M : List ((Int × Int) × Int)) (h : Int × Int) (v : Int) : List ((Int × Int) × Int) := match mfind M h 0 with | some p => M.set p.1 (h, v) | none => M ++ [(h, v)]
theorem mfind_some : ∀ (M : List ((Int × Int) × Int)) (h : Int × Int) (i : Nat) (j : Nat) (v : Int), mfind M h i = some (j, v) → i ≤ j ∧ M[j - i]? = some (h, v)
  | [], _, _, _, _, e => by cases e
  | p :: M, h, i, j, v, e => by
    unfold mfind at e
    by_cases hp : (h == p.1) = true
    · rw [if_pos hp] at e
      cases e
      refine ⟨Nat.le_refl _, ?_⟩
      rw [Nat.sub_self, List.getElem?_cons_zero]
      have : h = p.1 := by simpa using hp
      rw [this]
    · rw [if_neg hp] at e
      obtain ⟨h1, h2⟩ := mfind_some M h (i + 1) j v e
      refine ⟨by omega, ?_⟩
      rw [show j - i = (j - (i + 1)) + 1 by omega, List.getElem?_cons_succ]
      exact h2
theorem mfind_none : ∀ (M : List ((Int × Int) × Int)) (h : Int × Int) (i : Nat), mfind M h i = none → ∀ p ∈ M, p.1 ≠ h
  | [], _, _, _, p, hp => by cases hp
  | q :: M, h, i, e, p, hp => by
    unfold mfind at e
    by_cases hq : (h == q.1) = true
    · rw [if_pos hq] at e
      cases e
    · rw [if_neg hq] at e
      rcases List.mem_cons.1 hp with rfl | hp
      · intro e2
        exact hq (by simp [e2])
      · exact mfind_none M h (i + 1) e p hp
theorem mfind_mem {M : List ((Int × Int) × Int)} (hn : (M.map (·.1)).Nodup) {p : (Int × Int) × Int} (hp : p ∈ M) : ∃ j, mfind M p.1 0 = some (j, p.2) := by
  cases e : mfind M p.1 0 with
  | none => exact absurd rfl (mfind_none M p.1 0 e p hp)
  | some q =>
    obtain ⟨j, v⟩ := q
    obtain ⟨_, h2⟩ := mfind_some M p.1 0 j v e
    obtain ⟨k, hk⟩ := List.mem_iff_getElem?.1 hp
    have hj := (List.getElem?_eq_some_iff.1 h2).1
    have hkl := (List.getElem?_eq_some_iff.1 hk).1
    have : j = k := by
      have h3 : (M.map (·.1))[j]? = (M.map (·.1))[k]? := by
        rw [List.getElem?_map, List.getElem?_map, hk]
        rw [Nat.sub_zero] at h2
        rw [h2]
        rfl
      exact (List.getElem?_inj (by rw [List.length_map]; simpa using hj) hn).1 h3
    subst this
    rw [Nat.sub_zero, hk] at h2
    have hv : p.2 = v := congrArg Prod.snd (Option.some.inj h2)
    exact ⟨j, by rw [hv]⟩
theorem mval_mem {M : List ((Int × Int) × Int)} (hn : (M.map (·.1)).Nodup) {p : (Int × Int) × Int} (hp : p ∈ M) : mval M p.1 = p.2 := by
  obtain ⟨j, hj⟩ := mfind_mem hn hp
  unfold mval
  rw [hj]
theorem mval_out {M : List ((Int × Int) × Int)} {h : Int × Int} (hp : ∀ p ∈ M, p.1 ≠ h) : mval M h = 0 := by
  unfold mval
  cases e : mfind M h 0 with
  | none => rfl
  | some q =>
    obtain ⟨_, h2⟩ := mfind_some M h 0 q.1 q.2 e
    exact absurd rfl (hp _ (List.mem_of_getElem? h2))
theorem mset_keys {M : List ((Int × Int) × Int)} (hn : (M.map (·.1)).Nodup) (h : Int × Int) (v : Int) : ((mset M h v).map (·.1)).Nodup ∧ (∀ g u, (g, u) ∈ mset M h v ↔ (g = h ∧ u = v) ∨ (g ≠ h ∧ (g, u) ∈ M)) := by
  unfold mset
  cases e : mfind M h 0 with
  | none =>
    have hno := mfind_none M h 0 e
    simp only
    constructor
    · rw [List.map_append, List.nodup_append]
      refine ⟨hn, by simp, fun a ha b hb => ?_⟩
      obtain ⟨p, hp, rfl⟩ := List.mem_map.1 ha
      simp at hb
      subst hb
      exact hno p hp
    · intro g u
      rw [List.mem_append, List.mem_singleton, Prod.mk.injEq]
      constructor
      · rintro (h1 | h1)
        · exact .inr ⟨hno _ h1, h1⟩
        · exact .inl h1
      · rintro (h1 | h1)
        · exact .inr h1
        · exact .inl h1.2
  | some q =>
    obtain ⟨j, u0⟩ := q
    obtain ⟨_, h2⟩ := mfind_some M h 0 j u0 e
    rw [Nat.sub_zero] at h2
    have hj := (List.getElem?_eq_some_iff.1 h2).1
    have he := (List.getElem?_eq_some_iff.1 h2).2
    simp only
    have hmap : (M.set j (h, v)).map (·.1) = M.map (·.1) := by
      rw [List.map_set]
      refine List.ext_getElem? fun k => ?_
      rw [List.getElem?_set]
      split
      · rename_i hjk
        subst hjk
        rw [List.getElem?_map, h2]
        simp [hj]
      · rfl
    refine ⟨by rw [hmap]; exact hn, fun g u => ?_⟩
    constructor
    · intro hm
      obtain ⟨k, hk⟩ := List.mem_iff_getElem?.1 hm
      rw [List.getElem?_set] at hk
      split at hk
      · (try rw [if_pos (by omega)] at hk)
        cases hk
        exact .inl ⟨rfl, rfl⟩
      · rename_i hne
        refine .inr ⟨fun eg => hne ?_, List.mem_of_getElem? hk⟩
        subst eg
        have h3 : (M.map (·.1))[j]? = (M.map (·.1))[k]? := by rw [List.getElem?_map, List.getElem?_map, h2, hk]; rfl
        exact (List.getElem?_inj (by rw [List.length_map]; exact hj) hn).1 h3
    · rintro (⟨rfl, rfl⟩ | ⟨hne, hm⟩)
      · exact List.mem_of_getElem? (i := j) (by rw [List.getElem?_set_self (by omega)])
      · obtain ⟨k, hk⟩ := List.mem_iff_getElem?.1 hm
        refine List.mem_of_getElem? (i := k) ?_
        rw [List.getElem?_set_ne (fun ejk => ?_)]
        · exact hk
        · subst ejk
          rw [h2] at hk
          cases hk
          exact hne rfl
theorem mval_set {M : List ((Int × Int) × Int)} (hn : (M.map (·.1)).Nodup) (h : Int × Int) (v : Int) (g : Int × Int) : mval (mset M h v) g = if g = h then v else mval M g := by
  obtain ⟨h1, h2⟩ := mset_keys hn h v
  by_cases e : g = h
  · rw [if_pos e]
    exact mval_mem h1 (p := (g, v)) ((h2 g v).2 (.inl ⟨e, rfl⟩))
  · rw [if_neg e]
    by_cases hm : ∃ u, (g, u) ∈ M
    · obtain ⟨u, hu⟩ := hm
      rw [mval_mem hn (p := (g, u)) hu, mval_mem h1 (p := (g, u)) ((h2 g u).2 (.inr ⟨e, hu⟩))]
    · have a1 : mval M g = 0 := mval_out (fun p hp ep => hm ⟨p.2, by rw [← ep]; exact hp⟩)
      have a2 : mval (mset M h v) g = 0 := mval_out (fun p hp ep => by
        subst ep
        rcases (h2 p.1 p.2).1 hp with h3 | h3
        · exact e h3.1
        · exact hm ⟨p.2, h3.2⟩)
      rw [a1, a2]
theorem run_asking (w : World) (h : Int × Int) : ∀ (es : List MapEntry) (M : List ((Int × Int) × Int)) (i : Nat), es.map (fun e => (e.key, e.val)) = M.map (fun p => (VHh p.1, Value.int .i64 p.2)) → (Instr.findAsking 24 (VHh h) es i).run Try.prog w = .ok ((mfind M h i).map fun p => (p.1, .int .i64 p.2)) w
  | [], [], i, _ => rfl
  | [], q :: M, i, he => by simp at he
  | e :: es, [], i, he => by simp at he
  | e :: es, q :: M, i, he => by
    simp only [List.map_cons, List.cons.injEq, Prod.mk.injEq] at he
    obtain ⟨⟨hk, hv⟩, hr⟩ := he
    unfold Instr.findAsking
    rw [hk, hv]
    simp only [Sem.run_bind, equal_hand, Result.andThen]
    unfold mfind
    by_cases hp : (h == q.1) = true
    · rw [if_pos hp, if_pos hp]
      rfl
    · rw [if_neg hp, if_neg hp]
      exact run_asking w h es M (i + 1) hr
theorem run_findKey (w : World) (h : Int × Int) (es : List MapEntry) (M : List ((Int × Int) × Int)) (he : es.map (fun e => (e.key, e.val)) = M.map (fun p => (VHh p.1, Value.int .i64 p.2))) : (Instr.findKey 24 (VHh h) es).run Try.prog w = .ok ((mfind M h 0).map fun p => (p.1, .int .i64 p.2)) w := by
  unfold Instr.findKey
  simp only [Sem.run_bind, run_underlying Try.underlying24, Result.andThen]
  cases es with
  | nil =>
    cases M with
    | nil => rfl
    | cons q M => simp at he
  | cons e es =>
    have hk : e.key = VHh (M.head?.map (·.1) |>.getD (0, 0)) := by
      cases M with
      | nil => simp at he
      | cons q M =>
        simp only [List.map_cons, List.cons.injEq, Prod.mk.injEq] at he
        simpa using he.1.1
    have hn : ∀ d, (∃ fs, d = TypeDesc.struct fs) → Instr.findNow d (VHh h) (e :: es) 0 = none := fun d ⟨fs, hd⟩ => by
      subst hd
      unfold Instr.findNow
      rw [hk]
      rfl
    rw [hn _ ⟨_, rfl⟩]
    exact run_asking w h (e :: es) M 0 he
theorem run_lookup {w : World} {r : Nat} {M : List ((Int × Int) × Int)} (hm : HM w r M) (h : Int × Int) : (Instr.lookup 104 (.map (some r)) (VHh h) false).run Try.prog w = .ok (.int .i64 (mval M h)) w := by
  obtain ⟨es, clock, hr, he, _, _⟩ := hm.out
  unfold Instr.lookup
  simp only [Sem.run_bind, run_underlying Try.underlying104, Result.andThen, run_getObj_map w r es clock hr, Sem.run_pure, check_hand, run_findKey w h es.toList M he]
  unfold mval
  cases mfind M h 0 with
  | none =>
    simp only [Option.map_none, Sem.run_bind, Sem.run_pure, Result.andThen]
    go_simp
  | some p =>
    simp only [Option.map_some, Sem.run_bind, Sem.run_pure, Result.andThen]
    rfl
theorem same_hand (h : Int × Int) : Instr.sameBits 10000 (VHh h) (VHh h) = true := by
  rw [show (10000 : Nat) = 9999 + 1 from rfl]
  simp [Instr.sameBits]
theorem stays_hand (w : World) (h : Int × Int) : (Instr.keyThatStays (VHh h) (VHh h)).run Try.prog w = .ok (VHh h) w := by
  unfold Instr.keyThatStays
  rw [if_pos (same_hand h)]
  rfl
theorem run_setMap {w : World} {r : Nat} {es : Array MapEntry} {clock : Nat} (hr : w.heap[r]? = some (.map es clock)) (o : Obj) : (setObj r o).run Try.prog w = .ok () (w.putObj r o) := by
  simp [setObj, Sem.run, hr, World.putObj]
/-- A row's other fields. -/
theorem modify_map {β : Type} {es : Array MapEntry} {i : Nat} {e : MapEntry} (he : es[i]? = some e) (f : MapEntry → MapEntry) (g : MapEntry → β) : (es.modify i f).toList.map g = (es.toList.map g).set i (g (f e)) := by
  refine List.ext_getElem? fun k => ?_
  have hi : i < es.size := (Array.getElem?_eq_some_iff.1 he).1
  rw [List.getElem?_map, Array.getElem?_toList, Array.getElem?_modify, List.getElem?_set]
  by_cases hk : i = k
  · subst hk
    rw [if_pos rfl, if_pos rfl, he]
    simp [hi]
  · rw [if_neg hk, if_neg hk, List.getElem?_map, Array.getElem?_toList]
theorem set_same {β : Type} {l : List β} {i : Nat} {x : β} (h : l[i]? = some x) : l.set i x = l := by
  refine List.ext_getElem? fun k => ?_
  rw [List.getElem?_set]
  split
  · rename_i e
    subst e
    rw [h]
    simp [(List.getElem?_eq_some_iff.1 h).1]
  · rfl
theorem hm_row {es : Array MapEntry} {M : List ((Int × Int) × Int)} (he : es.toList.map (fun e => (e.key, e.val)) = M.map (fun p => (VHh p.1, Value.int .i64 p.2))) {i : Nat} {h : Int × Int} {v : Int} (hi : M[i]? = some (h, v)) : ∃ e, es[i]? = some e ∧ e.key = VHh h ∧ e.val = .int .i64 v := by
  have h1 := congrArg (fun l => l[i]?) he
  simp only [List.getElem?_map, Array.getElem?_toList, hi, Option.map_some] at h1
  cases hx : es[i]? with
  | none => rw [hx] at h1; cases h1
  | some e =>
    rw [hx] at h1
    simp only [Option.map_some, Option.some.injEq, Prod.mk.injEq] at h1
    exact ⟨e, rfl, h1.1, h1.2⟩
theorem run_update {w : World} {r : Nat} {M : List ((Int × Int) × Int)} (hm : HM w r M) (h : Int × Int) (v : Int) :
    ∃ w', (Instr.mapUpdate 104 (.map (some r)) (VHh h) (.int .i64 v)).run Try.prog w = .ok () w' ∧ HM w' r (mset M h v) ∧ w.grownBy w' (some r) := by
  obtain ⟨es, clock, hr, he, hn, hb⟩ := hm.out
  have hlt := (Array.getElem?_eq_some_iff.1 hr).1
  unfold Instr.mapUpdate
  simp only [Sem.run_bind, run_underlying Try.underlying104, Result.andThen, run_getObj_map w r es clock hr, check_hand, run_findKey w h es.toList M he]
  unfold mset
  cases hf : mfind M h 0 with
  | none =>
    simp only [Option.map_none, run_setMap hr]
    refine ⟨_, rfl, ⟨_, _, World.putObj_heap_same hlt, ?_, ?_, ?_⟩, grownBy_putObj' _ _ _⟩
    · simp only [Array.toList_push, List.map_append, List.map_cons, List.map_nil, he]
    · simp only [Array.toList_push, List.map_append, List.map_cons, List.map_nil]
      rw [List.nodup_append]
      refine ⟨hn, by simp, fun a ha b hb' => ?_⟩
      simp at hb'
      have := hb a ha
      omega
    · simp only [Array.toList_push, List.map_append, List.map_cons, List.map_nil]
      intro b hb'
      rcases List.mem_append.1 hb' with hb' | hb'
      · have := hb b hb'
        omega
      · simp at hb'
        omega
  | some q =>
    obtain ⟨i, v0⟩ := q
    obtain ⟨_, h2⟩ := mfind_some M h 0 i v0 hf
    rw [Nat.sub_zero] at h2
    obtain ⟨e, hei, hek, hev⟩ := hm_row he h2
    simp only [Option.map_some, hei, Option.getD_some, hek, Sem.run_bind, stays_hand, Result.andThen, run_setMap hr]
    have hbn : (es.modify i fun e => { e with key := VHh h, val := .int .i64 v }).toList.map (·.born) = es.toList.map (·.born) := by
      rw [modify_map hei]
      exact set_same (by rw [List.getElem?_map, Array.getElem?_toList, hei]; rfl)
    refine ⟨_, rfl, ⟨_, _, World.putObj_heap_same hlt, ?_, by rw [hbn]; exact hn, by rw [hbn]; exact hb⟩, grownBy_putObj' _ _ _⟩
    rw [modify_map hei, he, List.map_set]
theorem putObj_same {w : World} {r : Nat} {o : Obj} (h : w.heap[r]? = some o) : w.putObj r o = w := by
  obtain ⟨hl, he⟩ := Array.getElem?_eq_some_iff.1 h
  unfold World.putObj
  congr 1
  refine Array.ext (by simp) fun i h1 h2 => ?_
  rw [Array.getElem_setIfInBounds]
  split
  · rename_i e
    subst e
    exact he.symm
  · rfl
/-- An entry that is there is made no other one; then it is written. -/
theorem run_entry {w : World} {r : Nat} {M : List ((Int × Int) × Int)} (hm : HM w r M) {h : Int × Int} {i : Nat} {v : Int} (hf : mfind M h 0 = some (i, v)) :
    ∃ s : Nat, (∀ w', HM w' r M → w'.heap[r]? = w.heap[r]? → (Instr.mapEntry 104 (.map (some r)) (VHh h)).run Try.prog w' = .ok (.tuple #[.int .i64 v, .int .i64 s]) w') ∧
      ∀ w' u, w'.heap[r]? = w.heap[r]? → ∃ w'', (Instr.entryStore 104 (.map (some r)) (.int .i64 s) (.int .i64 u)).run Try.prog w' = .ok () w'' ∧ HM w'' r (mset M h u) ∧ w'.grownBy w'' (some r) := by
  obtain ⟨es, clock, hr, he, hn, hb⟩ := hm.out
  obtain ⟨_, h2⟩ := mfind_some M h 0 i v hf
  rw [Nat.sub_zero] at h2
  obtain ⟨e, hei, hek, hev⟩ := hm_row he h2
  have hi : i < es.size := (Array.getElem?_eq_some_iff.1 hei).1
  refine ⟨e.born, fun w' _ hw => ?_, fun w' u hw => ?_⟩
  · have hr' := hw.trans hr
    have hes : (es.modify i fun e => { e with key := VHh h }) = es := by
      refine Array.ext' ?_
      have := modify_map hei (fun e => { e with key := VHh h }) id
      rw [List.map_id, List.map_id] at this
      rw [this]
      refine set_same ?_
      rw [Array.getElem?_toList, hei]
      rw [← hek]
      rfl
    unfold Instr.mapEntry
    simp only [Sem.run_bind, run_underlying Try.underlying104, Result.andThen, run_getObj_map w' r es clock hr', check_hand, run_findKey w' h es.toList M he, hf, Option.map_some, hei, Option.getD_some, hek, stays_hand, run_setMap hr', hes, putObj_same hr', Sem.run_pure]
    rfl
  · have hr' := hw.trans hr
    have hlt := (Array.getElem?_eq_some_iff.1 hr').1
    have hidx : es.findIdx? (fun x => (x.born : Int) == (e.born : Int)) = some i := by
      rw [Array.findIdx?_eq_some_iff_getElem]
      refine ⟨hi, ?_, fun j hj => ?_⟩
      · rw [(Array.getElem?_eq_some_iff.1 hei).2]
        simp
      · intro hc
        have hc' : (es[j]'(by omega)).born = e.born := by
          have h0 : ((es[j]'(by omega)).born : Int) = (e.born : Int) := by simpa using hc
          omega
        have h3 : (es.toList.map (·.born))[j]? = (es.toList.map (·.born))[i]? := by
          rw [List.getElem?_map, List.getElem?_map, Array.getElem?_toList, Array.getElem?_toList, hei, Array.getElem?_eq_getElem (by omega)]
          simp [hc']
        have := (List.getElem?_inj (by rw [List.length_map, Array.length_toList]; omega) hn).1 h3
        omega
    unfold Instr.entryStore
    simp only [Sem.run_bind, Result.andThen, run_getObj_map w' r es clock hr', asInt, asIntOf, Sem.run_pure, hidx, run_setMap hr']
    have hbn : (es.modify i fun e => { e with val := .int .i64 u }).toList.map (·.born) = es.toList.map (·.born) := by
      rw [modify_map hei]
      exact set_same (by rw [List.getElem?_map, Array.getElem?_toList, hei]; rfl)
    refine ⟨_, rfl, ⟨_, _, World.putObj_heap_same hlt, ?_, by rw [hbn]; exact hn, by rw [hbn]; exact hb⟩, grownBy_putObj' _ _ _⟩
    unfold mset
    rw [hf, modify_map hei, he, List.map_set, hek]
/-- A range over the map: the rows whose times are not among those seen are left. -/
structure HR (w : World) (r t : Nat) (M : List ((Int × Int) × Int)) (es : Array MapEntry) (seen : Array Nat) : Prop where
  rows : es.toList.map (fun e => (e.key, e.val)) = M.map (fun p => (VHh p.1, Value.int .i64 p.2))
  born : (es.toList.map (·.born)).Nodup
  it : ∃ clock, w.heap[r]? = some (.map es clock) ∧ w.heap[t]? = some (.mapIter (some r) clock seen clock) ∧ ∀ b ∈ es.toList.map (·.born), b < clock
/-- The rows that are left. -/
def leftM (es : Array MapEntry) (seen : Array Nat) : List MapEntry := es.toList.filter fun e => !seen.contains e.born
theorem run_range {w : World} {r : Nat} {M : List ((Int × Int) × Int)} (hm : HM w r M) :
    ∃ es clock, (Instr.range 104 (.map (some r))).run Try.prog w = .ok (.pointer (some ⟨w.heap.size, 0, none⟩)) (w.alloc (.mapIter (some r) clock #[] clock)) ∧ HR (w.alloc (.mapIter (some r) clock #[] clock)) r w.heap.size M es #[] := by
  obtain ⟨es, clock, hr, he, hn, hb⟩ := hm.out
  refine ⟨es, clock, ?_, he, hn, clock, (Below.heap_alloc _ _ _ (Array.getElem?_eq_some_iff.1 hr).1).trans hr, World.alloc_heap_new w _, hb⟩
  unfold Instr.range
  simp only [Sem.run_bind, run_underlying Try.underlying104, Result.andThen, run_getObj_map w r es clock hr, Sem.run_pure, run_newObj_alloc]
theorem run_next {w : World} {r t : Nat} {M : List ((Int × Int) × Int)} {es : Array MapEntry} {seen : Array Nat} (h : HR w r t M es seen) (ty : TypeId) :
    (leftM es seen = [] ∧ (Instr.next (.pointer (some ⟨t, 0, none⟩)) false ty).run Try.prog w = .ok (.tuple #[.bool false]) w) ∨
    ∃ e, e ∈ leftM es seen ∧ ∃ p ∈ M, e.key = VHh p.1 ∧ e.val = .int .i64 p.2 ∧ ∃ w', (Instr.next (.pointer (some ⟨t, 0, none⟩)) false ty).run Try.prog w = .ok (.tuple #[.bool true, VHh p.1, .int .i64 p.2]) w' ∧ HR w' r t M es (seen.push e.born) ∧ w.grownBy w' (some t) ∧
      (Instr.entry (.pointer (some ⟨t, 0, none⟩))).run Try.prog w' = .ok (.tuple #[VHh p.1, .int .i64 p.2]) w' := by
  obtain ⟨clock, hr, ht, hb⟩ := h.it
  have hlt := (Array.getElem?_eq_some_iff.1 ht).1
  have hrt : r ≠ t := fun e => by rw [e, ht] at hr; cases hr
  rcases run_next_at (P := Try.prog) w ty t r clock clock seen es clock ht hr (fun x hx => hb x.born (List.mem_map.2 ⟨x, hx, rfl⟩)) (Nat.le_refl _) with ⟨h0, hrun⟩ | ⟨e, he, w1, hw1, hrun⟩
  · refine .inl ⟨?_, hrun⟩
    unfold leftM
    have : (leftOf es seen).toList = [] := by rw [← List.length_eq_zero_iff, Array.length_toList]; exact h0
    simpa [leftOf] using this
  · have hel : e ∈ leftM es seen := by
      unfold leftM
      simpa [leftOf] using he
    have hee : e ∈ es.toList := (List.mem_filter.1 hel).1
    obtain ⟨p, hp, hpe⟩ : ∃ p ∈ M, (VHh p.1, Value.int .i64 p.2) = (e.key, e.val) := by
      have : (e.key, e.val) ∈ M.map (fun p => (VHh p.1, Value.int .i64 p.2)) := by rw [← h.rows]; exact List.mem_map.2 ⟨e, hee, rfl⟩
      obtain ⟨p, hp, hq⟩ := List.mem_map.1 this
      exact ⟨p, hp, hq⟩
    simp only [Prod.mk.injEq] at hpe
    have hk1 : ∀ k : Nat, w1.heap[k]? = w.heap[k]? := fun k => by rcases hw1 with rfl | rfl <;> rfl
    have hset : ∀ k : Nat, k ≠ t → (ChangeMaps.setBlock w1 t (.mapIter (some r) clock (seen.push e.born) clock)).heap[k]? = w.heap[k]? := fun k hk => by
      unfold ChangeMaps.setBlock
      rw [Array.getElem?_setIfInBounds_ne (Ne.symm hk)]
      exact hk1 k
    have hself : (ChangeMaps.setBlock w1 t (.mapIter (some r) clock (seen.push e.born) clock)).heap[t]? = some (.mapIter (some r) clock (seen.push e.born) clock) := by
      unfold ChangeMaps.setBlock
      have : t < w1.heap.size := by rcases hw1 with rfl | rfl <;> exact hlt
      simp [this]
    refine .inr ⟨e, hel, p, hp, hpe.1.symm, hpe.2.symm, _, by rw [hrun, hpe.1, hpe.2], ⟨h.rows, h.born, clock, (hset r hrt).trans hr, hself, hb⟩, ⟨?_, ?_, ?_, ?_, fun k hk hne => hset k (fun e => hne (by rw [e]))⟩, ?_⟩
    · rcases hw1 with rfl | rfl <;> rfl
    · rcases hw1 with rfl | rfl <;> rfl
    · rcases hw1 with rfl | rfl <;> rfl
    · rcases hw1 with rfl | rfl <;> simp [ChangeMaps.setBlock]
    · rw [hpe.1, hpe.2]
      exact run_entry_at _ t r clock seen es clock e hself ((hset r hrt).trans hr) hee h.born
theorem leftM_less {es : Array MapEntry} {seen : Array Nat} {e : MapEntry} (h : e ∈ leftM es seen) : (leftM es (seen.push e.born)).length < (leftM es seen).length := by
  unfold leftM at h ⊢
  have hsub : (es.toList.filter fun x => !(seen.push e.born).contains x.born) = ((es.toList.filter fun x => !seen.contains x.born).filter fun x => !(x.born == e.born)) := by
    rw [List.filter_filter]
    refine List.filter_congr fun x _ => ?_
    simp
    cases hb : decide (x.born ∈ seen) <;> by_cases hx : x.born = e.born <;> simp_all
  rw [hsub]
  refine Nat.lt_of_le_of_ne (List.length_filter_le _ _) (fun hl => ?_)
  have := (List.length_filter_eq_length_iff.1 hl) e h
  simp at this
end Go.Proofs.Ytacghcoikekfeaa
/- Cnt0 -/
namespace Go.Proofs.Ytacghcoikekfeaa
open It
set_option maxRecDepth 100000
namespace Sp
def lkOf (L : List Ino) (no : Int) : Int := ((L[no.toNat]?).getD zeroI).links
def gen0 (L : List Ino) : Int := ((L[0]?).getD zeroI).gen
def startK (L : List Ino) (k : Nat) : List ((Int × Int) × Int) := ((used L).take k).foldl (fun M h => mset M h (lkOf L h.1)) []
def start (L : List Ino) : List ((Int × Int) × Int) := mset (startK L (used L).length) (0, gen0 L) 0
theorem startK_succ {L : List Ino} {k : Nat} {h : Int × Int} (hk : (used L)[k]? = some h) : startK L (k + 1) = mset (startK L k) h (lkOf L h.1) := by
  unfold startK
  rw [List.take_add_one, hk, Option.toList_some, List.foldl_append]
  rfl
/-- Each entry takes one away; one that has none left: no. -/
def eat (M : List ((Int × Int) × Int)) : List En → Option (List ((Int × Int) × Int))
  | [] => some M
  | e :: r => if mval M e.2.2 = 0 then none else eat (mset M e.2.2 (mval M e.2.2 - 1)) r
theorem eat_cons (M : List ((Int × Int) × Int)) (e : En) (r : List En) : eat M (e :: r) = if mval M e.2.2 = 0 then none else eat (mset M e.2.2 (mval M e.2.2 - 1)) r := rfl
theorem eat_append : ∀ (a b : List En) (M : List ((Int × Int) × Int)), eat M (a ++ b) = (eat M a).bind fun M' => eat M' b
  | [], b, M => rfl
  | e :: a, b, M => by
    rw [List.cons_append, eat_cons, eat_cons]
    by_cases h : mval M e.2.2 = 0
    · rw [if_pos h, if_pos h]
      rfl
    · rw [if_neg h, if_neg h]
      exact eat_append a b _
def cntB (L : List Ino) : Bool := match eat (start L) (allEnts L) with | some M => M.all (fun p => p.2 == 0) | none => false
/-- What has been eaten ahead of the j-th entry of the k-th inode. -/
def sofar (L : List Ino) (k j : Nat) : List En := allEnts (L.take k) ++ (entsAt L k).take j
theorem sofar_zero (L : List Ino) (k : Nat) : sofar L k 0 = allEnts (L.take k) := by simp [sofar]
theorem sofar_next {L : List Ino} {k j : Nat} {e : En} (h : (entsAt L k)[j]? = some e) : sofar L k (j + 1) = sofar L k j ++ [e] := by
  unfold sofar
  rw [List.take_add_one, h]
  simp
theorem sofar_end {L : List Ino} {k j : Nat} (hk : k < L.length) (h : (entsAt L k).length = j) : sofar L k j = allEnts (L.take (k + 1)) := by
  unfold sofar allEnts
  have e2 : entsAt L k = L[k].ents := by simp [entsAt, List.getElem?_eq_getElem hk]
  rw [← h, List.take_length, List.take_add_one, List.getElem?_eq_getElem hk, Option.toList_some, List.flatMap_append, e2]
  simp
theorem sofar_pre {L : List Ino} {k j : Nat} {e : En} (hk : k < L.length) (h : (entsAt L k)[j]? = some e) : ∃ r, allEnts L = sofar L k j ++ e :: r := by
  have h1 : allEnts L = allEnts (L.take k) ++ (entsAt L k ++ allEnts (L.drop (k + 1))) := by
    have e1 : L = L.take k ++ (L[k] :: L.drop (k + 1)) := by rw [← List.drop_eq_getElem_cons hk, List.take_append_drop]
    have e2 : entsAt L k = L[k].ents := by simp [entsAt, List.getElem?_eq_getElem hk]
    rw [e2]
    unfold allEnts
    conv => lhs; rw [e1]
    rw [List.flatMap_append, List.flatMap_cons]
  obtain ⟨hj, he⟩ := List.getElem?_eq_some_iff.1 h
  have h2 : entsAt L k = (entsAt L k).take j ++ (e :: (entsAt L k).drop (j + 1)) := by
    rw [← he, ← List.drop_eq_getElem_cons hj, List.take_append_drop]
  refine ⟨(entsAt L k).drop (j + 1) ++ allEnts (L.drop (k + 1)), ?_⟩
  rw [h1, sofar]
  conv => lhs; rw [h2]
  simp
theorem eat_no {L : List Ino} {k j : Nat} {e : En} {M : List ((Int × Int) × Int)} (hk : k < L.length) (h : (entsAt L k)[j]? = some e) (hm : eat (start L) (sofar L k j) = some M) (h0 : mval M e.2.2 = 0) : cntB L = false := by
  obtain ⟨r, hr⟩ := sofar_pre hk h
  unfold cntB
  rw [hr, eat_append, hm]
  show (match eat M (e :: r) with | some M => M.all (fun p => p.2 == 0) | none => false) = false
  unfold eat
  rw [if_pos h0]
theorem eat_yes {L : List Ino} {k j : Nat} {e : En} {M : List ((Int × Int) × Int)} (h : (entsAt L k)[j]? = some e) (hm : eat (start L) (sofar L k j) = some M) (h0 : mval M e.2.2 ≠ 0) : eat (start L) (sofar L k (j + 1)) = some (mset M e.2.2 (mval M e.2.2 - 1)) := by
  rw [sofar_next h, eat_append, hm]
  show eat M [e] = _
  unfold eat
  rw [if_neg h0]
  rfl
theorem eat_end {L : List Ino} {M : List ((Int × Int) × Int)} {n : Nat} (hn : L.length = n) (hm : eat (start L) (allEnts (L.take n)) = some M) : cntB L = M.all (fun p => p.2 == 0) := by
  rw [← hn, List.take_length] at hm
  unfold cntB
  rw [hm]
/-- The map's keys are apart, its numbers small. -/
def Small (M : List ((Int × Int) × Int)) : Prop := (M.map (·.1)).Nodup ∧ ∀ p ∈ M, 0 ≤ p.2 ∧ p.2 ≤ 64
theorem Small.nil : Small [] := ⟨by simp, fun p hp => by cases hp⟩
theorem Small.set {M : List ((Int × Int) × Int)} (h : Small M) (g : Int × Int) {v : Int} (h0 : 0 ≤ v) (h1 : v ≤ 64) : Small (mset M g v) := by
  obtain ⟨h2, h3⟩ := mset_keys h.1 g v
  refine ⟨h2, fun p hp => ?_⟩
  rcases (h3 p.1 p.2).1 hp with ⟨_, h4⟩ | ⟨_, h4⟩
  · omega
  · exact h.2 _ h4
theorem Small.val {M : List ((Int × Int) × Int)} (h : Small M) (g : Int × Int) : 0 ≤ mval M g ∧ mval M g ≤ 64 := by
  by_cases hm : ∃ u, (g, u) ∈ M
  · obtain ⟨u, hu⟩ := hm
    rw [mval_mem h.1 (p := (g, u)) hu]
    exact h.2 _ hu
  · rw [mval_out (fun p hp ep => hm ⟨p.2, by rw [← ep]; exact hp⟩)]
    omega
theorem find_val {M : List ((Int × Int) × Int)} {g : Int × Int} (h : mval M g ≠ 0) : ∃ i, mfind M g 0 = some (i, mval M g) := by
  unfold mval at h ⊢
  cases e : mfind M g 0 with
  | none => rw [e] at h; exact absurd rfl h
  | some q => exact ⟨q.1, rfl⟩
end Sp
end Go.Proofs.Ytacghcoikekfeaa
/- SpC -/
namespace Go.Proofs.Ytacghcoikekfeaa
open It
set_option maxRecDepth 100000
namespace Sp
/-- How many entries name a handle. -/
def cnt (L : List Ino) (h : Int × Int) : Nat := (allEnts L).countP (fun e => e.2.2 == h)
theorem eat_val : ∀ (es : List En) (M M' : List ((Int × Int) × Int)), (M.map (·.1)).Nodup → eat M es = some M' → (M'.map (·.1)).Nodup ∧ ∀ h, mval M' h = mval M h - (es.countP (fun e => e.2.2 == h) : Nat)
  | [], M, M', hn, h => by
    cases h
    exact ⟨hn, fun h => by simp⟩
  | e :: es, M, M', hn, h => by
    rw [eat_cons] at h
    split at h
    · cases h
    · obtain ⟨h1, h2⟩ := eat_val es _ M' (mset_keys hn _ _).1 h
      refine ⟨h1, fun g => ?_⟩
      rw [h2 g, mval_set hn, List.countP_cons]
      by_cases hg : g = e.2.2
      · subst hg
        simp
        omega
      · rw [if_neg hg]
        have : (e.2.2 == g) = false := beq_eq_false_iff_ne.2 (Ne.symm hg)
        simp [this]
theorem eat_some : ∀ (es : List En) (M : List ((Int × Int) × Int)), (M.map (·.1)).Nodup → (∀ h, (es.countP (fun e => e.2.2 == h) : Int) ≤ mval M h) → ∃ M', eat M es = some M'
  | [], M, _, _ => ⟨M, rfl⟩
  | e :: es, M, hn, h => by
    rw [eat_cons]
    have h0 := h e.2.2
    rw [List.countP_cons] at h0
    simp at h0
    rw [if_neg (by omega)]
    refine eat_some es _ (mset_keys hn _ _).1 fun g => ?_
    have hg := h g
    rw [List.countP_cons] at hg
    rw [mval_set hn]
    by_cases hge : g = e.2.2
    · subst hge
      simp at hg ⊢
      omega
    · rw [if_neg hge]
      have : (e.2.2 == g) = false := beq_eq_false_iff_ne.2 (Ne.symm hge)
      simp [this] at hg
      exact hg
theorem startK_small {L : List Ino} (h : It.right L = true) : ∀ k, Small (startK L k) := by
  intro k
  unfold startK
  have key : ∀ (l : List (Int × Int)) (M : List ((Int × Int) × Int)), Small M → (∀ g ∈ l, 0 ≤ lkOf L g.1 ∧ lkOf L g.1 ≤ 64) → Small (l.foldl (fun M h => mset M h (lkOf L h.1)) M) := by
    intro l
    induction l with
    | nil => intro M hM _; exact hM
    | cons g l ih =>
      intro M hM hb
      exact ih _ (hM.set g (hb g (by simp)).1 (hb g (by simp)).2) fun x hx => hb x (List.mem_cons_of_mem _ hx)
  refine key _ _ Small.nil fun g hg => ?_
  obtain ⟨i, x, hx, hno, -, -⟩ := names_iff.1 (mem_used.1 (List.mem_of_mem_take hg))
  have hone := (It.right_iff.1 h).2.2 x (List.mem_of_getElem? hx)
  unfold lkOf
  rw [hno, show ((i : Int)).toNat = i by omega, hx, Option.getD_some]
  unfold one at hone
  simp only [Bool.and_eq_true] at hone
  rcases At.right_iff.1 hone.2.1 with ⟨_, h1, _⟩ | ⟨_, _, ⟨_, h1⟩ | ⟨_, h1⟩⟩ <;> omega
theorem fold_val {f : Int → Int} : ∀ (l : List (Int × Int)) (M : List ((Int × Int) × Int)), (M.map (·.1)).Nodup → ∀ g, mval (l.foldl (fun M h => mset M h (f h.1)) M) g = if g ∈ l then f g.1 else mval M g
  | [], M, _, g => by simp
  | h :: l, M, hn, g => by
    rw [List.foldl_cons, fold_val l _ (mset_keys hn _ _).1 g, mval_set hn]
    by_cases h1 : g ∈ l
    · rw [if_pos h1, if_pos (List.mem_cons_of_mem _ h1)]
    · rw [if_neg h1]
      by_cases h2 : g = h
      · rw [if_pos h2, if_pos (by rw [h2]; simp), h2]
      · rw [if_neg h2, if_neg (fun hm => by rcases List.mem_cons.1 hm with h3 | h3; exact h2 h3; exact h1 h3)]
theorem start_nodup {L : List Ino} (h : It.right L = true) : ((start L).map (·.1)).Nodup := (mset_keys (startK_small h _).1 _ _).1
theorem start_val {L : List Ino} (h : It.right L = true) (g : Int × Int) : mval (start L) g = if g = (0, gen0 L) then 0 else if names L g.1 g.2 = true then lkOf L g.1 else 0 := by
  unfold start
  rw [mval_set (startK_small h _).1]
  by_cases h1 : g = (0, gen0 L)
  · rw [if_pos h1, if_pos h1]
  · rw [if_neg h1, if_neg h1]
    unfold startK
    rw [List.take_length, fold_val (f := lkOf L) _ _ (by simp)]
    have hm : g ∈ used L ↔ names L g.1 g.2 = true := mem_used (L := L) (no := g.1) (gen := g.2)
    by_cases h2 : names L g.1 g.2 = true
    · rw [if_pos (hm.2 h2), if_pos h2]
    · rw [if_neg (fun h3 => h2 (hm.1 h3)), if_neg h2]
      rfl
/-- Links are counted, just where each handle has as many names as it should. -/
theorem cntB_iff {L : List Ino} (h : It.right L = true) : cntB L = true ↔ ∀ g, (cnt L g : Int) = mval (start L) g := by
  have hn := start_nodup h
  constructor
  · intro hc g
    unfold cntB at hc
    cases he : eat (start L) (allEnts L) with
    | none => rw [he] at hc; cases hc
    | some M =>
      rw [he] at hc
      obtain ⟨h1, h2⟩ := eat_val _ _ M hn he
      have h3 := h2 g
      have h4 : mval M g = 0 := by
        by_cases hm : ∃ u, (g, u) ∈ M
        · obtain ⟨u, hu⟩ := hm
          rw [mval_mem h1 (p := (g, u)) hu]
          have := List.all_eq_true.1 hc _ hu
          simpa using this
        · exact mval_out (fun p hp ep => hm ⟨p.2, by rw [← ep]; exact hp⟩)
      unfold cnt
      omega
  · intro hc
    obtain ⟨M, he⟩ := eat_some (allEnts L) (start L) hn (fun g => by have := hc g; unfold cnt at this; omega)
    obtain ⟨h1, h2⟩ := eat_val _ _ M hn he
    unfold cntB
    rw [he]
    refine List.all_eq_true.2 fun p hp => ?_
    have h3 := h2 p.1
    have h4 := hc p.1
    unfold cnt at h4
    rw [mval_mem h1 hp] at h3
    simp
    omega
theorem mem_all {L : List Ino} {p : Nat} {e : En} (h : e ∈ entsAt L p) : e ∈ allEnts L := by
  unfold entsAt at h
  split at h
  · rename_i x hx
    exact List.mem_flatMap.2 ⟨x, List.mem_of_getElem? hx, h⟩
  · cases h
theorem all_mem {L : List Ino} {e : En} (h : e ∈ allEnts L) : ∃ (p : Nat) (x : Ino), L[p]? = some x ∧ e ∈ x.ents := by
  obtain ⟨x, hx, he⟩ := List.mem_flatMap.1 h
  obtain ⟨p, hp⟩ := List.mem_iff_getElem?.1 hx
  exact ⟨p, x, hp, he⟩
/-- An entry stands in a folder. -/
theorem ents_dir {L : List Ino} (h : It.right L = true) {p : Nat} {x : Ino} (hx : L[p]? = some x) {e : En} (he : e ∈ x.ents) : x.kind = 2 := by
  have hone := (It.right_iff.1 h).2.2 x (List.mem_of_getElem? hx)
  unfold one at hone
  simp only [Bool.and_eq_true] at hone
  by_cases hk : x.kind = 2
  · exact hk
  · have h2 := hone.2.2
    rw [if_neg hk] at h2
    split at h2
    · simp only [Bool.and_eq_true, List.isEmpty_iff] at h2
      rw [h2.1.1.1] at he
      cases he
    · simp only [Bool.and_eq_true, List.isEmpty_iff] at h2
      rw [h2.1.1] at he
      cases he
theorem dir_links {L : List Ino} (h : It.right L = true) {p : Nat} {x : Ino} (hx : L[p]? = some x) (hk : x.kind = 2) : x.links = 1 := by
  have hone := (It.right_iff.1 h).2.2 x (List.mem_of_getElem? hx)
  unfold one at hone
  simp only [Bool.and_eq_true] at hone
  rcases At.right_iff.1 hone.2.1 with ⟨h1, _⟩ | ⟨_, _, ⟨h1, _⟩ | ⟨_, h1⟩⟩
  · omega
  · omega
  · exact h1
/-- Each entry names an inode that is not the root. -/
theorem ent_named {L : List Ino} (h : It.right L = true) (hc : cntB L = true) {e : En} (he : e ∈ allEnts L) : names L e.2.2.1 e.2.2.2 = true ∧ e.2.2.1 ≠ 0 ∧ 1 ≤ lkOf L e.2.2.1 := by
  have h1 := (cntB_iff h).1 hc e.2.2
  have h2 : 0 < cnt L e.2.2 := List.countP_pos_iff.2 ⟨e, he, by simp⟩
  rw [start_val h] at h1
  by_cases h3 : e.2.2 = (0, gen0 L)
  · rw [if_pos h3] at h1
    omega
  · rw [if_neg h3] at h1
    by_cases h4 : names L e.2.2.1 e.2.2.2 = true
    · rw [if_pos h4] at h1
      refine ⟨h4, fun h5 => h3 ?_, by omega⟩
      obtain ⟨i, x, hx, hno, hg, _⟩ := names_iff.1 h4
      have hi : i = 0 := by omega
      subst hi
      unfold gen0
      rw [hx, Option.getD_some, hg, ← h5]
    · rw [if_neg h4] at h1
      omega
theorem tree_of {L : List Ino} (h : It.right L = true) (hf : folds L) (hc : cntB L = true) : Tree L := by
  refine ⟨fun p e he => ?_, fun c hd => ?_, ?_⟩
  · obtain ⟨h1, h2, _⟩ := ent_named h hc (mem_all he)
    obtain ⟨i, x, hx, hno, _, _⟩ := names_iff.1 h1
    have hi := (List.getElem?_eq_some_iff.1 hx).1
    refine ⟨by omega, by omega, ?_, h2⟩
    obtain ⟨q, y, hy, hey⟩ := all_mem (mem_all he)
    obtain ⟨⟨_, hpre, _⟩, _⟩ := hf y (List.mem_of_getElem? hy) (ents_dir h hy hey)
    obtain ⟨j, hj⟩ := List.mem_iff_getElem?.1 hey
    exact (hpre j (List.getElem?_eq_some_iff.1 hj).1 e hj).1.2.1
  · have hcl := dirAt_lt hd
    have hx : L[c]? = some L[c] := List.getElem?_eq_getElem hcl
    have hk : L[c].kind = 2 := by
      unfold dirAt at hd
      rw [hx] at hd
      simpa using hd
    have e1 : (allEnts L).countP (toNo c) = cnt L ((c : Int), L[c].gen) := by
      unfold cnt
      refine List.countP_congr fun e he => ?_
      obtain ⟨h1, _, _⟩ := ent_named h hc he
      obtain ⟨i, x, hxi, hno, hg, _⟩ := names_iff.1 h1
      simp only [toNo, beq_iff_eq]
      constructor
      · intro h2
        have : i = c := by omega
        subst this
        rw [hx] at hxi
        cases hxi
        exact Prod.ext h2 hg.symm
      · intro h2
        rw [h2]
    have h1 := (cntB_iff h).1 hc ((c : Int), L[c].gen)
    rw [e1]
    rw [start_val h] at h1
    have hl : lkOf L (c : Int) = 1 := by
      unfold lkOf
      rw [show ((c : Int)).toNat = c by omega, hx, Option.getD_some]
      exact dir_links h hx hk
    simp only [hl] at h1
    split at h1
    · omega
    · split at h1 <;> omega
  · have hr := (It.right_iff.1 h).2.1
    unfold rootB at hr
    cases L with
    | nil => cases hr
    | cons x l =>
      simp at hr
      simp [dirAt, hr]
theorem right_len {L : List Ino} (h : It.right L = true) : 1 ≤ L.length ∧ L.length ≤ 24 := (It.right_iff.1 h).1
theorem count_dirs (L : List Ino) : L.countP (fun x => x.kind == 2) = (dirs L).length := by
  unfold dirs
  rw [List.countP_eq_length_filter]
  have key : ∀ (l : List Ino), ((List.range l.length).filter (dirAt l)).length = (l.filter (fun x => x.kind == 2)).length := by
    intro l
    have e : (List.range l.length).map (fun i => l[i]?.getD zeroI) = l := by
      refine List.ext_getElem? fun i => ?_
      rw [List.getElem?_map]
      by_cases hi : i < l.length
      · rw [List.getElem?_range hi]
        simp [List.getElem?_eq_getElem hi]
      · rw [List.getElem?_eq_none (by simpa using hi), List.getElem?_eq_none (by omega)]
        rfl
    conv => rhs; rw [← e]
    rw [List.filter_map, List.length_map]
    congr 1
    refine List.filter_congr fun i hi => ?_
    have := List.mem_range.1 hi
    simp [dirAt, List.getElem?_eq_getElem this]
  exact (key L).symm
/-- All folders are below the root. -/
def reachB (L : List Ino) : Bool := (((walk L 24 0 ⟨#[]⟩).length : Int) - (L.countP (fun x => x.kind == 2) : Nat)) == 0
theorem reachB_iff {L : List Ino} (ht : Tree L) (hL : L.length ≤ 24) : reachB L = true ↔ ∀ c, dirAt L c = true → ∃ d, Anc L d 0 c := by
  unfold reachB
  rw [← walk_all ht hL ⟨#[]⟩, count_dirs]
  simp
  omega
/-- A table is a space. -/
noncomputable def isSp (L : List Ino) : Bool := It.right L && (foldsB L && (cntB L && reachB L))
open Classical in
theorem foldsB_iff {L : List Ino} : foldsB L = true ↔ folds L := by
  unfold foldsB
  exact decide_eq_true_iff
theorem isSp_iff {L : List Ino} : isSp L = true ↔ It.right L = true ∧ folds L ∧ cntB L = true ∧ reachB L = true := by
  unfold isSp
  simp only [Bool.and_eq_true, foldsB_iff]
theorem isSp_tree {L : List Ino} (h : isSp L = true) : Tree L := by
  obtain ⟨h1, h2, h3, _⟩ := isSp_iff.1 h
  exact tree_of h1 h2 h3
/-- Whatever a space's inode is, what is below it is no deeper than it has inodes. -/
theorem isSp_deep {L : List Ino} (h : isSp L = true) {k : Nat} (hk : k < L.length) : deep L 24 k := by
  obtain ⟨h1, h2, h3, h4⟩ := isSp_iff.1 h
  have ht := isSp_tree h
  cases hd : dirAt L k with
  | true =>
    obtain ⟨d, ha⟩ := (reachB_iff ht (right_len h1).2).1 h4 k hd
    exact deep_all ht (right_len h1).2 ha hk
  | false =>
    refine deep_bare hk ?_
    have hx : L[k]? = some L[k] := List.getElem?_eq_getElem hk
    cases he : entsAt L k with
    | nil => rfl
    | cons e r =>
      have hm : e ∈ L[k].ents := by
        unfold entsAt at he
        rw [hx] at he
        simp only at he
        rw [he]
        simp
      have := ents_dir h1 hx hm
      unfold dirAt at hd
      rw [hx] at hd
      simp [this] at hd
end Sp
end Go.Proofs.Ytacghcoikekfeaa
/- SRef9 -/
namespace Go.Proofs.Ytacghcoikekfeaa
open Go.ChangeShapes Go.WideShapes Go.ChangeAt Go.RowKit Go.Deep It
set_option maxRecDepth 100000
theorem atE_nil {α : Type} (E : Enc α) (S : Nat → Prop) (w : World) : At E S w (.slice none 0 0) [] := .inl ⟨_, _, rfl, rfl⟩
/-- An inode, written as one that is gone. -/
theorem Cp.clear {T : Nat → Prop} {B : Nat} {w : World} {g n cap : Nat} {L : List Rw} (h : Cp T B w g n cap L) {k : Nat} {x : Rw} (hk : L[k]? = some x) (gn : Int) :
    ∃ L', Cp T B ((((((((w.setCell ⟨g, k * 8, none⟩ (.int .i64 gn)).setCell ⟨g, k * 8 + 1, none⟩ (.int .i64 0)).setCell ⟨g, k * 8 + 2, none⟩ (.int .i64 0)).setCell ⟨g, k * 8 + 3, none⟩ (.int .i64 0)).setCell ⟨g, k * 8 + 4, none⟩ (.int .i64 0)).setCell ⟨g, k * 8 + 5, none⟩ (.slice none 0 0)).setCell ⟨g, k * 8 + 6, none⟩ (.slice none 0 0)).setCell ⟨g, k * 8 + 7, none⟩ (.int .i64 0)) g n cap L' ∧ pl L' = (pl L).set k (gone gn) := by
  have hlt := (List.getElem?_eq_some_iff.1 hk).1
  obtain ⟨hr, hu, ho⟩ := h.2 x (List.mem_of_getElem? hk)
  let x0 : Rw := ⟨⟨gn, x.i.kind, x.i.links, x.i.size, x.i.stamp, x.i.runs, x.i.ents, x.i.next⟩, x.rp, x.rn, x.rc, x.ep, x.en, x.ec⟩
  let x1 : Rw := ⟨⟨gn, 0, x.i.links, x.i.size, x.i.stamp, x.i.runs, x.i.ents, x.i.next⟩, x.rp, x.rn, x.rc, x.ep, x.en, x.ec⟩
  let x2 : Rw := ⟨⟨gn, 0, 0, x.i.size, x.i.stamp, x.i.runs, x.i.ents, x.i.next⟩, x.rp, x.rn, x.rc, x.ep, x.en, x.ec⟩
  let x3 : Rw := ⟨⟨gn, 0, 0, 0, x.i.stamp, x.i.runs, x.i.ents, x.i.next⟩, x.rp, x.rn, x.rc, x.ep, x.en, x.ec⟩
  let x4 : Rw := ⟨⟨gn, 0, 0, 0, 0, x.i.runs, x.i.ents, x.i.next⟩, x.rp, x.rn, x.rc, x.ep, x.en, x.ec⟩
  let x5 : Rw := ⟨⟨gn, 0, 0, 0, 0, [], x.i.ents, x.i.next⟩, none, 0, 0, x.ep, x.en, x.ec⟩
  let x6 : Rw := ⟨⟨gn, 0, 0, 0, 0, [], [], x.i.next⟩, none, 0, 0, none, 0, 0⟩
  let x7 : Rw := ⟨gone gn, none, 0, 0, none, 0, 0⟩
  have g0 : Good (fun b => b ≠ g ∧ T b) w x0 := ⟨hr, hu, ho⟩
  have g1 : Good (fun b => b ≠ g ∧ T b) w x1 := ⟨hr, hu, ho⟩
  have g2 : Good (fun b => b ≠ g ∧ T b) w x2 := ⟨hr, hu, ho⟩
  have g3 : Good (fun b => b ≠ g ∧ T b) w x3 := ⟨hr, hu, ho⟩
  have g4 : Good (fun b => b ≠ g ∧ T b) w x4 := ⟨hr, hu, ho⟩
  have g5 : Good (fun b => b ≠ g ∧ T b) w x5 := ⟨atE_nil _ _ _, hu, fun y hy => (by cases hy), Nat.zero_le _, ho.2.2⟩
  have g6 : Good (fun b => b ≠ g ∧ T b) w x6 := ⟨atE_nil _ _ _, atE_nil _ _ _, fun y hy => (by cases hy), Nat.zero_le _, Nat.zero_le _⟩
  have g7 : Good (fun b => b ≠ g ∧ T b) w x7 := ⟨atE_nil _ _ _, atE_nil _ _ _, fun y hy => (by cases hy), Nat.zero_le _, Nat.zero_le _⟩
  have h0 := h.put (k := k) (j := 0) (x' := x0) (u := .int .i64 gn) hk (by decide) rfl g0
  have h1 := h0.put (k := k) (j := 1) (x := x0) (x' := x1) (u := .int .i64 0) (by rw [List.getElem?_set_self hlt]) (by decide) rfl (by (repeat (with_reducible refine Good.setCell ?_ (by simp) _)); exact g1)
  have h2 := h1.put (k := k) (j := 2) (x := x1) (x' := x2) (u := .int .i64 0) (by rw [List.getElem?_set_self (by simpa using hlt)]) (by decide) rfl (by (repeat (with_reducible refine Good.setCell ?_ (by simp) _)); exact g2)
  have h3 := h2.put (k := k) (j := 3) (x := x2) (x' := x3) (u := .int .i64 0) (by rw [List.getElem?_set_self (by simpa using hlt)]) (by decide) rfl (by (repeat (with_reducible refine Good.setCell ?_ (by simp) _)); exact g3)
  have h4 := h3.put (k := k) (j := 4) (x := x3) (x' := x4) (u := .int .i64 0) (by rw [List.getElem?_set_self (by simpa using hlt)]) (by decide) rfl (by (repeat (with_reducible refine Good.setCell ?_ (by simp) _)); exact g4)
  have h5 := h4.put (k := k) (j := 5) (x := x4) (x' := x5) (u := .slice none 0 0) (by rw [List.getElem?_set_self (by simpa using hlt)]) (by decide) rfl (by (repeat (with_reducible refine Good.setCell ?_ (by simp) _)); exact g5)
  have h6 := h5.put (k := k) (j := 6) (x := x5) (x' := x6) (u := .slice none 0 0) (by rw [List.getElem?_set_self (by simpa using hlt)]) (by decide) rfl (by (repeat (with_reducible refine Good.setCell ?_ (by simp) _)); exact g6)
  have h7 := h6.put (k := k) (j := 7) (x := x6) (x' := x7) (u := .int .i64 0) (by rw [List.getElem?_set_self (by simpa using hlt)]) (by decide) rfl (by (repeat (with_reducible refine Good.setCell ?_ (by simp) _)); exact g7)
  refine ⟨_, h7, ?_⟩
  simp only [List.set_set]
  show (L.set k x7).map Rw.i = _
  rw [List.map_set]
end Go.Proofs.Ytacghcoikekfeaa
/- SRef10 -/
namespace Go.Proofs.Ytacghcoikekfeaa
open Go.ChangeShapes Go.WideShapes Go.ChangeAt Go.RowKit Go.Deep It
set_option maxRecDepth 100000
/-- An inode's links and stamp, written. -/
theorem Cp.two {T : Nat → Prop} {B : Nat} {w : World} {g n cap : Nat} {L : List Rw} (h : Cp T B w g n cap L) {k : Nat} {x : Rw} (hk : L[k]? = some x) (nl st : Int) :
    ∃ L', Cp T B ((w.setCell ⟨g, k * 8 + 1 + 1, none⟩ (.int .i64 nl)).setCell ⟨g, k * 8 + 1 + 3, none⟩ (.int .i64 st)) g n cap L' ∧ pl L' = (pl L).set k ⟨x.i.gen, x.i.kind, nl, x.i.size, st, x.i.runs, x.i.ents, x.i.next⟩ := by
  have hlt := (List.getElem?_eq_some_iff.1 hk).1
  have hg := h.2 x (List.mem_of_getElem? hk)
  let x1 : Rw := ⟨⟨x.i.gen, x.i.kind, nl, x.i.size, x.i.stamp, x.i.runs, x.i.ents, x.i.next⟩, x.rp, x.rn, x.rc, x.ep, x.en, x.ec⟩
  let x2 : Rw := ⟨⟨x.i.gen, x.i.kind, nl, x.i.size, st, x.i.runs, x.i.ents, x.i.next⟩, x.rp, x.rn, x.rc, x.ep, x.en, x.ec⟩
  have g1 : Good (fun b => b ≠ g ∧ T b) w x1 := ⟨hg.1, hg.2.1, hg.2.2⟩
  have g2 : Good (fun b => b ≠ g ∧ T b) w x2 := ⟨hg.1, hg.2.1, hg.2.2⟩
  have h1 := h.put (k := k) (j := 2) (x' := x1) (u := .int .i64 nl) hk (by decide) rfl g1
  have h2 := h1.put (k := k) (j := 4) (x := x1) (x' := x2) (u := .int .i64 st) (by rw [List.getElem?_set_self hlt]) (by decide) rfl (by (repeat (with_reducible refine Good.setCell ?_ (by simp) _)); exact g2)
  refine ⟨_, h2, ?_⟩
  rw [List.set_set]
  show (L.set k x2).map Rw.i = _
  rw [List.map_set]
theorem Cp.but {T : Nat → Prop} {B : Nat} {w : World} {g n cap z : Nat} {L : List Rw} (h : Cp T B w g n cap L) (hz : z < B) (hT : ∀ b, T b → b ≠ z) : TabAt (fun b => b ≠ z) w (.slice (some ⟨g, 0, none⟩) n cap) L :=
  ⟨h.1.at.imp fun b hb _ => by omega, fun y hy => (h.2 y hy).imp fun b hb _ => hT b hb.2⟩
theorem tab_set {z : Nat} {w : World} {v : Value} {L : List Rw} (h : TabAt (fun b => b ≠ z) w v L) (o : Nat) (u : Value) : TabAt (fun b => b ≠ z) (w.setCell ⟨z, o, none⟩ u) v L := ⟨h.1.setCell (by simp) _, fun y hy => (h.2 y hy).setCell (by simp) _⟩
theorem tab_drew {S : Nat → Prop} {w : World} {v : Value} {L : List Rw} (h : TabAt S w v L) : TabAt S w.drew v L := ⟨h.1.keep (Nat.le_refl _) fun _ hb _ => ⟨rfl, hb⟩, fun y hy => (h.2 y hy).keep (Nat.le_refl _) fun _ hb _ => ⟨rfl, hb⟩⟩
theorem tab_wide {S : Nat → Prop} {w : World} {v : Value} {L : List Rw} (h : TabAt S w v L) : TabW w v L := ⟨h.1.wide, fun y hy => (h.2 y hy).imp fun _ _ _ => trivial⟩
end Go.Proofs.Ytacghcoikekfeaa
/- SRef11 -/
namespace Go.Proofs.Ytacghcoikekfeaa
open Go.ChangeShapes Go.WideShapes Go.ChangeAt Go.RowKit Go.Deep It
set_option maxRecDepth 100000
theorem Sp.linkE_no {C : List Ino → Int} {L : List Ino} {a b c d st e : Int} {s : ByteArray} (h : Sp.linkErr C L a b c d s st = e) (h0 : e ≠ 0) : Sp.linkE C L a b c d s st = e ∧ Sp.linkT C L a b c d s st = [] := by
  have h1 : Sp.linkE C L a b c d s st = e := by unfold Sp.linkE; rw [if_neg (by rw [h]; exact h0), h]
  exact ⟨h1, by unfold Sp.linkT; rw [if_neg (by rw [h1]; exact h0)]⟩
theorem find_names {L : List Ino} (hr : It.right L = true) (a b : Int) : (names L a b = true ∧ findErr L a b = 0) ∨ (names L a b = false ∧ findErr L a b = 401) := by
  unfold findErr
  rw [if_pos hr]
  cases h : names L a b with
  | true => exact .inl ⟨rfl, by simp⟩
  | false => exact .inr ⟨rfl, by simp⟩
end Go.Proofs.Ytacghcoikekfeaa
/- Sp18 -/
namespace Go.Proofs.Ytacghcoikekfeaa
open Go.ChangeShapes Go.WideShapes Go.ChangeAt Go.RowKit Go.Deep It
set_option maxRecDepth 100000
namespace Sp
theorem make_keep {L : List Ino} {kind st : Int} (hm : It.makeErr L kind st = 0) : It.right (makeTab L kind st) = true ∧ ∀ (k : Nat) (x : Ino), L[k]? = some x → x.kind ≠ 0 → (makeTab L kind st)[k]? = some x := by
  obtain ⟨hr, ha, hn, e1, -⟩ := make_next hm
  have hk : kind = 1 ∨ kind = 2 := by unfold argOk at ha; simp only [Bool.and_eq_true, decide_eq_true_eq] at ha; exact ha.1
  have hs0 : 0 ≤ st ∧ st ≤ 1099511627776 := by unfold argOk at ha; simp only [Bool.and_eq_true, decide_eq_true_eq] at ha; exact ha.2
  obtain ⟨hn1, hng⟩ := next_good hr
  obtain ⟨hb0, hb1⟩ := next_bd L
  have hlen := right_len24 hr
  rw [e1]
  refine ⟨right_put hr (by omega) (by omega) (by omega) (one_fresh hng hk hs0), fun k x hx hxk => ?_⟩
  have hput := put_at (x := fresh (next L).2 kind st) (show (next L).1.toNat ≤ L.length by omega) k
  have hne : k ≠ (next L).1.toNat := by
    intro h
    have hkl : k < L.length := (List.getElem?_eq_some_iff.1 hx).1
    rcases next_cases L with ⟨j, y, hy, hyk, -, e⟩ | e
    · rw [e] at h
      have hj : k = j := by simpa using h
      subst hj
      rw [hx] at hy
      cases hy
      exact hxk hyk
    · rw [e] at h
      simp at h
      omega
  rw [if_neg hne] at hput
  rw [hput]
  exact hx
theorem makeErr_zero {C : List Ino → Int} {L : List Ino} {a b : Int} {s : ByteArray} {kind st : Int} (h : makeErr C L a b s kind st = 0) : (C L = 0 ∧ top L ≤ st ∧ st ≤ 1099511627776) ∧ (kind = 1 ∨ kind = 2) ∧ dirErr L a b = 0 := by
  unfold makeErr at h
  by_cases hs : stErr C L st = 0
  · rw [if_pos hs] at h
    by_cases hk : kind = 1 ∨ kind = 2
    · rw [if_pos hk] at h
      exact ⟨stErr_zero hs, hk, (nameErr_zero h).1⟩
    · rw [if_neg hk] at h
      exact absurd h (by decide)
  · rw [if_neg hs] at h
    exact absurd h hs
/-- What Make tells. -/
noncomputable def mkE (C : List Ino → Int) (L : List Ino) (a b : Int) (s : ByteArray) (kind st : Int) : Int :=
  if makeErr C L a b s kind st = 0 then (if It.makeErr L kind st = 0 then Fo.addErr (dirEnts L a b) (dirNext L a b) s (makeH L kind st).1 (makeH L kind st).2 else It.makeErr L kind st) else makeErr C L a b s kind st
noncomputable def mkT (C : List Ino → Int) (L : List Ino) (a b : Int) (s : ByteArray) (kind st : Int) : List Ino :=
  if mkE C L a b s kind st = 0 then
    (makeTab L kind st).set a.toNat (filled (findI L a b) ((findI L a b).ents ++ [(s, (findI L a b).next + 1, (makeH L kind st).1, (makeH L kind st).2)]) ((findI L a b).next + 1) st)
  else []
noncomputable def mkH (C : List Ino → Int) (L : List Ino) (a b : Int) (s : ByteArray) (kind st : Int) : Int × Int :=
  if mkE C L a b s kind st = 0 then makeH L kind st else (0, 0)
end Sp
end Go.Proofs.Ytacghcoikekfeaa
/- Sp19 -/
namespace Go.Proofs.Ytacghcoikekfeaa
open Go.ChangeShapes Go.WideShapes Go.ChangeAt Go.RowKit Go.Deep It
set_option maxRecDepth 100000
set_option maxHeartbeats 4000000 in
theorem smake_any {C : List Ino → Int} (hC : ChkSaid C) (hM : Sp.ChkMeans C) {S : Nat → Prop} (v : Value) (L : List Rw) (a b : Int) (s : ByteArray) (kind st : Int) (w : World) (hv : TabAt S w v L) (hok : Sp.okN L) (hs : s.size ≤ maxLen) :
    Calls Try.prog 8 #[v, .agg #[.int .i64 a, .int .i64 b], .string s, .int .i64 kind, .int .i64 st] w fun e w' =>
      ∃ u L', e = .returned (.tuple #[u, .agg #[.int .i64 (Sp.mkH C (pl L) a b s kind st).1, .int .i64 (Sp.mkH C (pl L) a b s kind st).2], .int .i64 (Sp.mkE C (pl L) a b s kind st)]) ∧ TabAt (fun b => w.heap.size ≤ b) w' u L' ∧ pl L' = Sp.mkT C (pl L) a b s kind st ∧ Below w.heap.size w w' := by
  obtain ⟨W, hW⟩ : ∃ W, W = (w.alloc (BH a b)).alloc (BH 0 0) := ⟨_, rfl⟩
  have HB0 : Hid (Below w.heap.size w W) := by show Below w.heap.size w W; rw [hW]; exact ((Below.refl _ w).alloc (Nat.le_refl _) _).alloc (by simp) _
  have HA0 : Hid (W.heap[w.heap.size]? = some (BH a b)) := by show W.heap[w.heap.size]? = _; rw [hW]; exact (Below.heap_alloc _ _ _ (by simp)).trans (heap_alloc_new _ _)
  have HZ0 : Hid (W.heap[w.heap.size + 1]? = some (BH 0 0)) := by
    show W.heap[w.heap.size + 1]? = _
    rw [hW]
    have := heap_alloc_new (w.alloc (BH a b)) (BH 0 0)
    rwa [show (w.alloc (BH a b)).heap.size = w.heap.size + 1 by simp] at this
  have hwz : w.heap.size + 1 < W.heap.size := by rw [hW]; simp
  have hws : w.heap.size < W.heap.size := by omega
  have HV : Hid (TabAt S W v L) := hv.up HB0.out
  obtain ⟨ao, cap, rfl, _, _⟩ := hv.open
  have HOK : Hid (Sp.okN L) := hok
  have HSM : Hid (s.size ≤ maxLen) := hs
  have HCC : Hid (ChkSaid C) := hC
  clear hv hok hs hC
  obtain ⟨le, hle⟩ : ∃ le, Sp.makeErr C (pl L) a b s kind st = le := ⟨_, rfl⟩
  have HLE : Hid (Sp.makeErr C (pl L) a b s kind st = le) := hle
  obtain ⟨me, hme⟩ : ∃ me, It.makeErr (pl L) kind st = me := ⟨_, rfl⟩
  obtain ⟨q1, q2, hq⟩ : ∃ q1 q2, makeH (pl L) kind st = (q1, q2) := ⟨_, _, rfl⟩
  have HMH : Hid (It.makeErr (pl L) kind st = me ∧ makeH (pl L) kind st = (q1, q2)) := ⟨hme, hq⟩
  by_cases hz : le = 0
  · subst hz
    obtain ⟨⟨hc0, hs1, hs2⟩, hkk, hd⟩ := Sp.makeErr_zero hle
    obtain ⟨hr, hfo, hlen, -⟩ := hM _ hc0
    obtain ⟨kc, xc, rfl, hxc, hgc, hkc, hde, hdn, hfc, -⟩ := Sp.dir_get hd
    obtain ⟨yc, hyc, rfl⟩ := Sp.pl_some hxc
    by_cases hm0 : me = 0
    · subst hm0
      obtain ⟨ae, hae⟩ : ∃ ae, Fo.addErr yc.i.ents yc.i.next s q1 q2 = ae := ⟨_, rfl⟩
      have hE : Sp.mkE C (pl L) kc b s kind st = ae := by unfold Sp.mkE; rw [if_pos hle, if_pos hme, hde, hdn, hq, hae]
      have HAE : Hid (Fo.addErr yc.i.ents yc.i.next s q1 q2 = ae) := hae
      have hicd : findI (pl L) kc b = yc.i := by
        obtain ⟨k', x', h1, h2, -, -, h3, -⟩ := Sp.find_get hfc
        obtain rfl : kc = k' := by omega
        rw [hxc] at h2
        rw [h3]
        exact (Option.some.inj h2).symm
      obtain ⟨hr1, hkeep⟩ := Sp.make_keep hme
      have hx1 := hkeep kc yc.i hxc (by omega)
      obtain ⟨T1, hT1⟩ : ∃ T1, makeTab (pl L) kind st = T1 := ⟨_, rfl⟩
      rw [hT1] at hr1 hx1
      have hlenc := hlen yc.i (List.mem_of_getElem? hxc)
      have hone := (It.right_iff.1 hr).2.2 yc.i (List.mem_of_getElem? hxc)
      have hst0 : 0 ≤ st := Int.le_trans (Sp.top_nonneg _) hs1
      have hf1 : findErr T1 kc b = 0 := by
        unfold findErr
        rw [if_pos hr1, if_pos ?_]
        unfold names
        rw [show ((kc : Int)).toNat = kc by omega, hx1]
        simp [hgc, hkc]
      have hp1 := (Sp.putTab_set (y := Sp.filled yc.i (yc.i.ents ++ [(s, yc.i.next + 1, q1, q2)]) (yc.i.next + 1) st) hf1 hx1 hgc (by show yc.i.kind ≠ 0; omega) (Sp.one_filled hone hkc ⟨hst0, hs2⟩ (by simp; omega)) rfl).2
      obtain ⟨T2, hT2⟩ : ∃ T2, T1.set kc (Sp.filled yc.i (yc.i.ents ++ [(s, yc.i.next + 1, q1, q2)]) (yc.i.next + 1) st) = T2 := ⟨_, rfl⟩
      have HP : Hid (putTab T1 kc b (Sp.filled yc.i (yc.i.ents ++ [(s, yc.i.next + 1, q1, q2)]) (yc.i.next + 1) st) = T2) := hp1.trans hT2
      have hT : Sp.mkT C (pl L) kc b s kind st = if ae = 0 then T2 else [] := by
        unfold Sp.mkT
        rw [hE, hicd, hq, hT1, ← hT2]
        rfl
      have hH : Sp.mkH C (pl L) kc b s kind st = if ae = 0 then (q1, q2) else (0, 0) := by unfold Sp.mkH; rw [hE, hq]
      have HADD : Hid (Fo.addErr yc.i.ents yc.i.next s q1 q2 = 0 → yc.i.ents.length + 1 ≤ 3518437208883 ∧ At.growErr yc.i.kind yc.i.links yc.i.size yc.i.stamp (yc.i.ents.length + 1) st = 0) := fun _ => ⟨by omega, Sp.grow_ok hr hxc (by omega) ⟨hs1, hs2⟩ ⟨by omega, by omega⟩⟩
      have HYC : Hid (∀ e ∈ yc.i.ents, e.1.size ≤ maxLen) := HOK.out yc (List.mem_of_getElem? hyc)
      have HX1 : Hid (T1[kc]? = some yc.i) := hx1
      have HTT : Hid (makeTab (pl L) kind st = T1) := hT1
      rw [hE, hT, hH]
      clear hle hc0 hs1 hs2 hkk hd hr hfo hlen hxc hgc hkc hde hdn hfc hyc hae hE hicd hr1 hkeep hx1 hT1 hlenc hone hst0 hf1 hp1 hT2 hT hH hme hq hM
      by_cases hz : ae = 0
      · subst hz
        rw [if_pos rfl, if_pos rfl]
        go_enter Try.func8, Try.ntmps8
        obtain ⟨⟨a0, a1⟩, _⟩ := two_of HA0.out
        go_wp2_with fail
        rw [← hW]
        refine (refuseMake_any HCC.out _ L kc b s kind st _ HV.out HOK.out HSM.out).mono ?_
        rintro e w1 ⟨rfl, hb1⟩
        rw [HLE.out]
        have HB1 : Hid (Below w.heap.size w w1) := HB0.out.trans (hb1.mono HB0.out.size)
        have HA1 : Hid (w1.heap[w.heap.size]? = some (BH kc b)) := (hb1.block _ hws).trans HA0.out
        have HZ1 : Hid (w1.heap[w.heap.size + 1]? = some (BH 0 0)) := (hb1.block _ hwz).trans HZ0.out
        have hwz1 : w.heap.size + 1 < w1.heap.size := (Array.getElem?_eq_some_iff.1 HZ1.out).1
        have hwa1 : w.heap.size < w1.heap.size := by omega
        have HV1 : Hid (TabAt S w1 (.slice ao L.length cap) L) := HV.out.up hb1
        clear hb1 hW HV HA0 HZ0 a0 a1
        go_wp2_with fail
        refine (make_any _ L kind st _ HV1.out).mono ?_
        rintro e w2 ⟨u, L1, rfl, ht, hp, hb2⟩
        rw [HMH.out.1, HMH.out.2]
        have HB2 : Hid (Below w.heap.size w w2) := HB1.out.trans (hb2.mono HB1.out.size)
        have HA2 : Hid (w2.heap[w.heap.size]? = some (BH kc b)) := (hb2.block _ (by omega)).trans HA1.out
        have HZ2 : Hid (w2.heap[w.heap.size + 1]? = some (BH 0 0)) := (hb2.block _ hwz1).trans HZ1.out
        have hwz2 : w.heap.size + 1 < w2.heap.size := (Array.getElem?_eq_some_iff.1 HZ2.out).1
        have hwa2 : w.heap.size < w2.heap.size := by omega
        have HT1 : Hid (TabAt (fun b => w1.heap.size ≤ b) w2 u L1) := ht
        have HPL : Hid (pl L1 = T1) := hp.trans HTT.out
        obtain ⟨y1, hy1, hyi⟩ := Sp.pl_some (L := L1) (k := kc) (x := yc.i) (by rw [HPL.out]; exact HX1.out)
        have HY1 : Hid (L1[kc]? = some y1 ∧ y1.i = yc.i) := ⟨hy1, hyi⟩
        obtain ⟨W2, hW2⟩ : ∃ W2, W2 = w2.alloc (BH q1 q2) := ⟨_, rfl⟩
        have bb2 : Below w2.heap.size w2 W2 := by rw [hW2]; exact (Below.refl _ _).alloc (Nat.le_refl _) _
        have HBW : Hid (Below w.heap.size w W2) := HB2.out.trans (bb2.mono HB2.out.size)
        have HAW : Hid (W2.heap[w.heap.size]? = some (BH kc b) ∧ W2.heap[w2.heap.size]? = some (BH q1 q2) ∧ W2.heap[w.heap.size + 1]? = some (BH 0 0)) := ⟨(bb2.block _ (by omega)).trans HA2.out, by rw [hW2]; exact heap_alloc_new _ _, (bb2.block _ hwz2).trans HZ2.out⟩
        have HTW : Hid (TabAt (fun b => w1.heap.size ≤ b) W2 u L1) := HT1.out.up bb2
        have hws2 : w2.heap.size < W2.heap.size := (Array.getElem?_eq_some_iff.1 HAW.out.2.1).1
        have hwz3 : w.heap.size + 1 < W2.heap.size := (Array.getElem?_eq_some_iff.1 HAW.out.2.2).1
        obtain ⟨⟨a0, a1⟩, _⟩ := two_of HA2.out
        clear hb2 ht hp hy1 hyi bb2
        go_wp2_with fail
        rw [← hW2]
        refine (sadd_any _ L1 kc b q1 q2 st s y1 _ HTW.out HY1.out.1 (by rw [HY1.out.2]; exact HYC.out) HSM.out (by rw [HY1.out.2]; exact HADD.out)).mono ?_
        rintro e w3 ⟨u3, L3, rfl, ht3, hp3, hb3⟩
        rw [HY1.out.2] at hp3 ⊢
        rw [HAE.out] at hp3 ⊢
        have HB3 : Hid (Below w.heap.size w w3) := HBW.out.trans (hb3.mono HBW.out.size)
        have HZ3 : Hid (w3.heap[w.heap.size + 1]? = some (BH 0 0)) := (hb3.block _ hwz3).trans HAW.out.2.2
        have HQ3 : Hid (w3.heap[w2.heap.size]? = some (BH q1 q2)) := (hb3.block _ hws2).trans HAW.out.2.1
        have hwz4 : w.heap.size + 1 < w3.heap.size := (Array.getElem?_eq_some_iff.1 HZ3.out).1
        obtain ⟨⟨z0, z1⟩, zf⟩ := two_of HZ3.out
        obtain ⟨⟨p0, p1⟩, pf⟩ := two_of HQ3.out
        rw [if_pos rfl, HPL.out, HP.out] at hp3
        have HT3 : Hid (TabAt (fun b => W2.heap.size ≤ b) w3 u3 L3) := ht3
        have HP3 : Hid (pl L3 = T2) := hp3
        clear hb3 ht3 hp3 a0 a1 hW2
        go_wp2_with fail
        go_region
        all_goals
          go_wp2
          (try simp only [Exit.inBlock, Exit.then])
        refine bodyPost_ret (v := .tuple #[u3, .agg #[.int .i64 q1, .int .i64 q2], .int .i64 0]) ?_ rfl ?_
        · rw [results_tct rfl]
          go_simp
        · have hbe := HB3.out
          have hfin : TabAt (fun b => w.heap.size ≤ b) ((w3.setCell ⟨w.heap.size + 1, 0, none⟩ (.int .i64 q1)).setCell ⟨w.heap.size + 1, 1, none⟩ (.int .i64 q2)) u3 L3 := by
            refine ⟨?_, fun y hy => ?_⟩
            · refine At.imp (S := fun b => W2.heap.size ≤ b) ?_ (fun b hb _ => by omega)
              repeat (refine At.setCell ?_ (by simp; omega) _)
              exact HT3.out.1
            · refine Good.imp (S := fun b => W2.heap.size ≤ b) ?_ (fun b hb _ => by omega)
              repeat (refine Good.setCell ?_ (by simp; omega) _)
              exact HT3.out.2 y hy
          have hbf : Below w.heap.size w ((w3.setCell ⟨w.heap.size + 1, 0, none⟩ (.int .i64 q1)).setCell ⟨w.heap.size + 1, 1, none⟩ (.int .i64 q2)) := by
            repeat (first | exact hbe | refine Below.setCell ?_ (by simp) _)
          first
            | exact ⟨u3, rfl, L3, hfin, HP3.out, bel_drew hbf⟩
            | exact ⟨u3, L3, rfl, hfin, HP3.out, bel_drew hbf⟩
      · rw [if_neg hz, if_neg hz]
        have hz' : (ae != 0) = true := by simpa using hz
        go_enter Try.func8, Try.ntmps8
        obtain ⟨⟨a0, a1⟩, _⟩ := two_of HA0.out
        go_wp2_with fail
        rw [← hW]
        refine (refuseMake_any HCC.out _ L kc b s kind st _ HV.out HOK.out HSM.out).mono ?_
        rintro e w1 ⟨rfl, hb1⟩
        rw [HLE.out]
        have HB1 : Hid (Below w.heap.size w w1) := HB0.out.trans (hb1.mono HB0.out.size)
        have HA1 : Hid (w1.heap[w.heap.size]? = some (BH kc b)) := (hb1.block _ hws).trans HA0.out
        have HZ1 : Hid (w1.heap[w.heap.size + 1]? = some (BH 0 0)) := (hb1.block _ hwz).trans HZ0.out
        have hwz1 : w.heap.size + 1 < w1.heap.size := (Array.getElem?_eq_some_iff.1 HZ1.out).1
        have hwa1 : w.heap.size < w1.heap.size := by omega
        have HV1 : Hid (TabAt S w1 (.slice ao L.length cap) L) := HV.out.up hb1
        clear hb1 hW HV HA0 HZ0 a0 a1
        go_wp2_with fail
        refine (make_any _ L kind st _ HV1.out).mono ?_
        rintro e w2 ⟨u, L1, rfl, ht, hp, hb2⟩
        rw [HMH.out.1, HMH.out.2]
        have HB2 : Hid (Below w.heap.size w w2) := HB1.out.trans (hb2.mono HB1.out.size)
        have HA2 : Hid (w2.heap[w.heap.size]? = some (BH kc b)) := (hb2.block _ (by omega)).trans HA1.out
        have HZ2 : Hid (w2.heap[w.heap.size + 1]? = some (BH 0 0)) := (hb2.block _ hwz1).trans HZ1.out
        have hwz2 : w.heap.size + 1 < w2.heap.size := (Array.getElem?_eq_some_iff.1 HZ2.out).1
        have hwa2 : w.heap.size < w2.heap.size := by omega
        have HT1 : Hid (TabAt (fun b => w1.heap.size ≤ b) w2 u L1) := ht
        have HPL : Hid (pl L1 = T1) := hp.trans HTT.out
        obtain ⟨y1, hy1, hyi⟩ := Sp.pl_some (L := L1) (k := kc) (x := yc.i) (by rw [HPL.out]; exact HX1.out)
        have HY1 : Hid (L1[kc]? = some y1 ∧ y1.i = yc.i) := ⟨hy1, hyi⟩
        obtain ⟨W2, hW2⟩ : ∃ W2, W2 = w2.alloc (BH q1 q2) := ⟨_, rfl⟩
        have bb2 : Below w2.heap.size w2 W2 := by rw [hW2]; exact (Below.refl _ _).alloc (Nat.le_refl _) _
        have HBW : Hid (Below w.heap.size w W2) := HB2.out.trans (bb2.mono HB2.out.size)
        have HAW : Hid (W2.heap[w.heap.size]? = some (BH kc b) ∧ W2.heap[w2.heap.size]? = some (BH q1 q2) ∧ W2.heap[w.heap.size + 1]? = some (BH 0 0)) := ⟨(bb2.block _ (by omega)).trans HA2.out, by rw [hW2]; exact heap_alloc_new _ _, (bb2.block _ hwz2).trans HZ2.out⟩
        have HTW : Hid (TabAt (fun b => w1.heap.size ≤ b) W2 u L1) := HT1.out.up bb2
        have hws2 : w2.heap.size < W2.heap.size := (Array.getElem?_eq_some_iff.1 HAW.out.2.1).1
        have hwz3 : w.heap.size + 1 < W2.heap.size := (Array.getElem?_eq_some_iff.1 HAW.out.2.2).1
        obtain ⟨⟨a0, a1⟩, _⟩ := two_of HA2.out
        clear hb2 ht hp hy1 hyi bb2
        go_wp2_with fail
        rw [← hW2]
        refine (sadd_any _ L1 kc b q1 q2 st s y1 _ HTW.out HY1.out.1 (by rw [HY1.out.2]; exact HYC.out) HSM.out (by rw [HY1.out.2]; exact HADD.out)).mono ?_
        rintro e w3 ⟨u3, L3, rfl, ht3, hp3, hb3⟩
        rw [HY1.out.2] at hp3 ⊢
        rw [HAE.out] at hp3 ⊢
        have HB3 : Hid (Below w.heap.size w w3) := HBW.out.trans (hb3.mono HBW.out.size)
        have HZ3 : Hid (w3.heap[w.heap.size + 1]? = some (BH 0 0)) := (hb3.block _ hwz3).trans HAW.out.2.2
        have HQ3 : Hid (w3.heap[w2.heap.size]? = some (BH q1 q2)) := (hb3.block _ hws2).trans HAW.out.2.1
        have hwz4 : w.heap.size + 1 < w3.heap.size := (Array.getElem?_eq_some_iff.1 HZ3.out).1
        obtain ⟨⟨z0, z1⟩, zf⟩ := two_of HZ3.out
        obtain ⟨⟨p0, p1⟩, pf⟩ := two_of HQ3.out
        clear hb3 ht3 hp3 a0 a1 hW2 hz
        go_wp2
        (try simp only [Exit.inBlock, Exit.then])
        refine bodyPost_ret (v := .tuple #[.slice none 0 0, .agg #[.int .i64 0, .int .i64 0], .int .i64 ae]) ?_ rfl ?_
        · rw [results_tct rfl]
          go_simp
        · have hbe := HB3.out
          have hbs := hbe.size
          first
            | exact ⟨_, rfl, [], tab_nil _ _, rfl, by repeat (first | exact hbe | refine Below.setCell ?_ (by simp) _ | refine Below.alloc ?_ (by simp; omega) _)⟩
            | exact ⟨_, [], rfl, tab_nil _ _, rfl, by repeat (first | exact hbe | refine Below.setCell ?_ (by simp) _ | refine Below.alloc ?_ (by simp; omega) _)⟩
    · have hE : Sp.mkE C (pl L) kc b s kind st = me := by unfold Sp.mkE; rw [if_pos hle, if_neg (by rw [hme]; exact hm0), hme]
      have hT : Sp.mkT C (pl L) kc b s kind st = [] := by unfold Sp.mkT; rw [if_neg (by rw [hE]; exact hm0)]
      have hH : Sp.mkH C (pl L) kc b s kind st = (0, 0) := by unfold Sp.mkH; rw [if_neg (by rw [hE]; exact hm0)]
      rw [hE, hT, hH]
      have hz' : (me != 0) = true := by simpa using hm0
      clear hle hc0 hs1 hs2 hkk hd hr hfo hlen hxc hgc hkc hde hdn hfc hyc hE hT hH hme hq hM hm0
      go_enter Try.func8, Try.ntmps8
      obtain ⟨⟨a0, a1⟩, _⟩ := two_of HA0.out
      go_wp2_with fail
      rw [← hW]
      refine (refuseMake_any HCC.out _ L kc b s kind st _ HV.out HOK.out HSM.out).mono ?_
      rintro e w1 ⟨rfl, hb1⟩
      rw [HLE.out]
      have HB1 : Hid (Below w.heap.size w w1) := HB0.out.trans (hb1.mono HB0.out.size)
      have HA1 : Hid (w1.heap[w.heap.size]? = some (BH kc b)) := (hb1.block _ hws).trans HA0.out
      have HZ1 : Hid (w1.heap[w.heap.size + 1]? = some (BH 0 0)) := (hb1.block _ hwz).trans HZ0.out
      have hwz1 : w.heap.size + 1 < w1.heap.size := (Array.getElem?_eq_some_iff.1 HZ1.out).1
      have hwa1 : w.heap.size < w1.heap.size := by omega
      have HV1 : Hid (TabAt S w1 (.slice ao L.length cap) L) := HV.out.up hb1
      clear hb1 hW HV HA0 HZ0 a0 a1
      go_wp2_with fail
      refine (make_any _ L kind st _ HV1.out).mono ?_
      rintro e w2 ⟨u, L1, rfl, ht, hp, hb2⟩
      rw [HMH.out.1, HMH.out.2]
      have HB2 : Hid (Below w.heap.size w w2) := HB1.out.trans (hb2.mono HB1.out.size)
      have HA2 : Hid (w2.heap[w.heap.size]? = some (BH kc b)) := (hb2.block _ (by omega)).trans HA1.out
      have HZ2 : Hid (w2.heap[w.heap.size + 1]? = some (BH 0 0)) := (hb2.block _ hwz1).trans HZ1.out
      have hwz2 : w.heap.size + 1 < w2.heap.size := (Array.getElem?_eq_some_iff.1 HZ2.out).1
      have hwa2 : w.heap.size < w2.heap.size := by omega
      obtain ⟨⟨z0, z1⟩, zf⟩ := two_of HZ2.out
      clear hb2 ht hp
      go_wp2
      (try simp only [Exit.inBlock, Exit.then])
      refine bodyPost_ret (v := .tuple #[.slice none 0 0, .agg #[.int .i64 0, .int .i64 0], .int .i64 me]) ?_ rfl ?_
      · rw [results_tct rfl]
        go_simp
      · have hbe := HB2.out
        have hbs := hbe.size
        first
          | exact ⟨_, rfl, [], tab_nil _ _, rfl, by repeat (first | exact hbe | refine Below.setCell ?_ (by simp) _ | refine Below.alloc ?_ (by simp; omega) _)⟩
          | exact ⟨_, [], rfl, tab_nil _ _, rfl, by repeat (first | exact hbe | refine Below.setCell ?_ (by simp) _ | refine Below.alloc ?_ (by simp; omega) _)⟩
  · have hE : Sp.mkE C (pl L) a b s kind st = le := by unfold Sp.mkE; rw [if_neg (by rw [hle]; exact hz), hle]
    have hT : Sp.mkT C (pl L) a b s kind st = [] := by unfold Sp.mkT; rw [if_neg (by rw [hE]; exact hz)]
    have hH : Sp.mkH C (pl L) a b s kind st = (0, 0) := by unfold Sp.mkH; rw [if_neg (by rw [hE]; exact hz)]
    rw [hE, hT, hH]
    have hz' : (le != 0) = true := by simpa using hz
    clear hz hE hT hH hle hme hq hM
    go_enter Try.func8, Try.ntmps8
    obtain ⟨⟨a0, a1⟩, _⟩ := two_of HA0.out
    go_wp2_with fail
    rw [← hW]
    refine (refuseMake_any HCC.out _ L a b s kind st _ HV.out HOK.out HSM.out).mono ?_
    rintro e w1 ⟨rfl, hb1⟩
    rw [HLE.out]
    have HB1 : Hid (Below w.heap.size w w1) := HB0.out.trans (hb1.mono HB0.out.size)
    have HA1 : Hid (w1.heap[w.heap.size]? = some (BH a b)) := (hb1.block _ hws).trans HA0.out
    have HZ1 : Hid (w1.heap[w.heap.size + 1]? = some (BH 0 0)) := (hb1.block _ hwz).trans HZ0.out
    have hwz1 : w.heap.size + 1 < w1.heap.size := (Array.getElem?_eq_some_iff.1 HZ1.out).1
    have hwa1 : w.heap.size < w1.heap.size := by omega
    have HV1 : Hid (TabAt S w1 (.slice ao L.length cap) L) := HV.out.up hb1
    clear hb1 hW HV HA0 HZ0 a0 a1
    obtain ⟨⟨z0, z1⟩, zf⟩ := two_of HZ1.out
    go_wp2
    (try simp only [Exit.inBlock, Exit.then])
    refine bodyPost_ret (v := .tuple #[.slice none 0 0, .agg #[.int .i64 0, .int .i64 0], .int .i64 le]) ?_ rfl ?_
    · rw [results_tct rfl]
      go_simp
    · have hbe := HB1.out
      have hbs := hbe.size
      first
        | exact ⟨_, rfl, [], tab_nil _ _, rfl, by repeat (first | exact hbe | refine Below.setCell ?_ (by simp) _ | refine Below.alloc ?_ (by simp; omega) _)⟩
        | exact ⟨_, [], rfl, tab_nil _ _, rfl, by repeat (first | exact hbe | refine Below.setCell ?_ (by simp) _ | refine Below.alloc ?_ (by simp; omega) _)⟩
end Go.Proofs.Ytacghcoikekfeaa
/- RefB -/
namespace Go.Proofs.Ytacghcoikekfeaa
open Go.ChangeShapes Go.WideShapes Go.ChangeAt Go.RowKit Go.Deep It
set_option maxRecDepth 100000

theorem It.put_rw {L : List Rw} {no : Nat} {x : Rw} (h : no ≤ L.length) : pl (if no = L.length then L ++ [x] else L.set no x) = put (pl L) no x.i := by
  unfold put
  simp only [pl, List.length_map]
  by_cases hlt : no < L.length
  · rw [if_neg (by omega), if_pos hlt, List.map_set]
  · rw [if_pos (by omega), if_neg hlt]
    simp
end Go.Proofs.Ytacghcoikekfeaa
/- RefM -/
namespace Go.Proofs.Ytacghcoikekfeaa
open Go.ChangeShapes Go.WideShapes Go.ChangeAt Go.RowKit Go.Deep It
set_option maxRecDepth 100000

namespace It
/-- The least free place from k on; -1: there is none. -/
def noOf (L : List Ino) (k : Nat) : Int := if (nextFrom k (L.drop k)).1 = L.length then -1 else (nextFrom k (L.drop k)).1
def genOf (L : List Ino) (k : Nat) : Int := (nextFrom k (L.drop k)).2
theorem down_end (L : List Ino) : noOf L L.length = -1 ∧ genOf L L.length = 1 := by
  unfold noOf genOf
  simp [nextFrom]
theorem down_step {L : List Ino} {k : Nat} {x : Ino} (hx : L[k]? = some x) : (noOf L k = if x.kind = 0 ∧ x.gen < 1099511627776 then (k : Int) else noOf L (k + 1)) ∧ (genOf L k = if x.kind = 0 ∧ x.gen < 1099511627776 then x.gen + 1 else genOf L (k + 1)) := by
  have hk : k < L.length := (List.getElem?_eq_some_iff.1 hx).1
  have hxe : L[k] = x := (List.getElem?_eq_some_iff.1 hx).2
  unfold noOf genOf
  rw [List.drop_eq_getElem_cons hk, hxe]
  by_cases h : x.kind = 0 ∧ x.gen < 1099511627776
  · have e : nextFrom k (x :: L.drop (k + 1)) = ((k : Int), x.gen + 1) := by simp only [nextFrom]; rw [if_pos h]
    rw [if_pos h, if_pos h, e]
    exact ⟨if_neg (by show ¬ ((k : Int) = (L.length : Int)); omega), rfl⟩
  · have e : nextFrom k (x :: L.drop (k + 1)) = nextFrom (k + 1) (L.drop (k + 1)) := by simp only [nextFrom]; rw [if_neg h]
    rw [if_neg h, if_neg h, e]
    exact ⟨rfl, rfl⟩
theorem down_zero (L : List Ino) : (noOf L 0 = if (next L).1 = L.length then -1 else (next L).1) ∧ genOf L 0 = (next L).2 := ⟨rfl, rfl⟩
end It
def RMakeSaid (w : World) (L : List Ino) (kind stamp : Int) (e : Ending) (w' : World) : Prop :=
  ∃ u L', e = .returned (.tuple #[u, VH (makeH L kind stamp), .int .i64 (makeErr L kind stamp)]) ∧ TabW w' u L' ∧ pl L' = makeTab L kind stamp ∧ Below w.heap.size w w'
theorem rmake_said {w w' : World} {L : List Ino} {kind stamp : Int} {e : Ending} {er : Int} (h : makeErr L kind stamp = er) (hz : er ≠ 0) (he : e = .returned (.tuple #[.slice none 0 0, .agg #[.int .i64 0, .int .i64 0], .int .i64 er])) (hb : Below w.heap.size w w') : RMakeSaid w L kind stamp e w' := by
  refine ⟨_, [], ?_, tab_nil _ _, ?_, hb⟩
  · rw [he]
    unfold makeH
    rw [h, if_neg hz]
  · unfold makeTab
    rw [h, if_neg hz]
    rfl
end Go.Proofs.Ytacghcoikekfeaa
/- SRef12 -/
namespace Go.Proofs.Ytacghcoikekfeaa
open Go.ChangeShapes Go.WideShapes Go.ChangeAt Go.RowKit Go.Deep It
set_option maxRecDepth 100000
/-- A list of things with texts does not lie in a box of two numbers. -/
theorem At.off_box {α : Type} {E : Enc α} {S : Nat → Prop} {w : World} {v : Value} {l : List α} {z : Nat} {p q : Int} (h : At E S w v l) (hz : w.heap[z]? = some (BH p q)) (k : Nat) (hk : ∀ x, ∃ s, (E.cells x)[k]? = some (.string s)) : At E (fun b => b ≠ z) w v l := by
  rcases h with h | ⟨b, off, cap, rfl, hS, hb, hp, hc, hm, hx⟩
  · exact .inl h
  · refine .inr ⟨b, off, cap, rfl, ?_, hb, hp, hc, hm, hx⟩
    rintro rfl
    obtain ⟨s, hs⟩ := hk l[0]
    have h1 := hx _ _ (E.flat_at l 0 l[0] (List.getElem?_eq_getElem hp) k _ hs)
    generalize off + (0 * E.sz + k) = i at h1
    simp only [World.cell?, hz] at h1
    rcases i with _ | _ | i <;> simp at h1
theorem Good.off_box {S : Nat → Prop} {w : World} {x : Rw} {z : Nat} {p q : Int} (h : Good S w x) (hz : w.heap[z]? = some (BH p q)) : Good (fun b => b ≠ z) w x :=
  ⟨h.1.off_box hz 1 fun y => ⟨y.2, rfl⟩, h.2.1.off_box hz 0 fun y => ⟨y.1, rfl⟩, h.2.2⟩
theorem Cp.off {T : Nat → Prop} {B : Nat} {w : World} {g n cap z : Nat} {p q : Int} {L : List Rw} (h : Cp T B w g n cap L) (hb : z < B) (hz : w.heap[z]? = some (BH p q)) : TabAt (fun b => b ≠ z) w (.slice (some ⟨g, 0, none⟩) n cap) L :=
  ⟨h.1.at.imp fun b hb _ => by omega, fun y hy => (h.2 y hy).off_box hz⟩
end Go.Proofs.Ytacghcoikekfeaa
