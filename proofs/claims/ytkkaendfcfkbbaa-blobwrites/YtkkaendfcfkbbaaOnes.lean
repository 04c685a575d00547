/-
  The document's Ones: all bytes that runs have, each with its place.
-/
import Derived.Test.YtkkaendfcfkbbaaBase
import Derived.Deep.RegionHeld3
import Derived.Deep.RegionLawGrows
import Derived.Deep.AppendLies
import Derived.Laws.AppendOwn
namespace Go.Proofs.Ytkkaendfcfkbbaa
open Go.ChangeShapes Go.WideShapes Go.ChangeAt Go.RowKit Go.Deep

theorem infoOne : (Try.prog.info? 56).map (fun i => (i.zero, i.size, i.bytes)) = some (some (.agg #[.int .i64 0, .int .u8 0]), 2, 16) := by kernel_rfl
def cells1 (l : List (Int × UInt8)) : List Value := l.flatMap fun q => [.int .i64 q.1, .int .u8 (q.2.toNat : Int)]
theorem cells1_length (l : List (Int × UInt8)) : (cells1 l).length = l.length * 2 := by
  induction l with
  | nil => rfl
  | cons x l ih => simp only [cells1, List.flatMap_cons, List.length_append, List.length_cons, List.length_nil] at ih ⊢; omega
theorem cells1_append (l m : List (Int × UInt8)) : cells1 (l ++ m) = cells1 l ++ cells1 m := by simp [cells1]
theorem cells1_at (l : List (Int × UInt8)) : ∀ i, i < l.length → (cells1 l)[i * 2]? = some (.int .i64 (l.getD i (0, 0)).1) ∧ (cells1 l)[i * 2 + 1]? = some (.int .u8 ((l.getD i (0, 0)).2.toNat : Int)) := by
  induction l with
  | nil => intro i hi; simp at hi
  | cons x l ih =>
    intro i hi
    match i, hi with
    | 0, _ => simp [cells1]
    | i + 1, hi =>
      have := ih i (by simpa using hi)
      have e : cells1 (x :: l) = .int .i64 x.1 :: .int .u8 (x.2.toNat : Int) :: cells1 l := by simp [cells1]
      rw [e, show (i + 1) * 2 = i * 2 + 1 + 1 from by omega]
      simpa using this
theorem Bl.onesFrom_take_succ (p : Int) (s : ByteArray) (j : Nat) (hj : j < s.size) : Bl.onesFrom p (s.data.toList.take (j + 1)) = Bl.onesFrom p (s.data.toList.take j) ++ [(p + (j : Int), s[j])] := by
  rw [List.take_succ_eq_append_getElem (by simpa using hj), Bl.onesFrom_append]
  congr 1
  have hl : (List.take j s.data.toList).length = j := by simp; omega
  rw [hl]
  rfl
theorem Bl.onesFrom_length (l : List UInt8) : ∀ p, (Bl.onesFrom p l).length = l.length := by
  induction l with
  | nil => intro p; rfl
  | cons b l ih => intro p; simp [Bl.onesFrom, ih]
theorem Bl.ones_length (l : List Bl.R) : (Bl.ones l).length = Bl.total l := by
  induction l with
  | nil => rfl
  | cons r l ih =>
    rw [Bl.ones_cons, List.length_append, ih]
    unfold Bl.one Bl.total
    rw [Bl.onesFrom_length, Bl.bs_length]
    simp
theorem Bl.ones_take_succ (l : List Bl.R) {k : Nat} (hk : k < l.length) {x : Bl.R} (hx : l.getD k (0, .empty) = x) : Bl.ones (l.take (k + 1)) = Bl.ones (l.take k) ++ Bl.onesFrom x.1 x.2.data.toList := by
  rw [Bl.take_succ l hk hx, Bl.ones_append]
  congr 1
  simp [Bl.ones, Bl.one, Bl.bs]
theorem two_alloc {w : World} {R : Nat} {x y : Value} (o : Obj) (h : w.cell? ⟨R, 0, none⟩ = some x ∧ w.cell? ⟨R, 1, none⟩ = some y) : (w.alloc o).cell? ⟨R, 0, none⟩ = some x ∧ (w.alloc o).cell? ⟨R, 1, none⟩ = some y :=
  ⟨(World.grownBy_alloc w o none).cell h.1 (by simp), (World.grownBy_alloc w o none).cell h.2 (by simp)⟩
/-- A block of two cells that an append onto an own row of another element type leaves alone. -/
theorem keep_two {w w' : World} {base : Nat} {e size : Nat} {v : Value} {n : Nat} {xs : List Value} (h : w.ownsRow base e size v n xs) (hg : w.grownBy w' v.ownBlock) {b : Nat} {c : Array Value} {t : TypeId} {fr : Nat × Nat}
    (hb : w.heap[b]? = some (.cells c t fr)) (hne : t ≠ e) : w'.heap[b]? = some (.cells c t fr) := by
  rw [hg.block b (Array.getElem?_eq_some_iff.1 hb).1 ?_, hb]
  intro heq
  rcases h.2 with ⟨rfl, _⟩ | ⟨g, cap, cur, rfl, hbg, hgg, hnc, hcm, hcs, htake⟩
  · simp [Value.ownBlock] at heq
  · simp only [Value.ownBlock, Option.some.injEq] at heq
    subst heq
    rw [hgg] at hb
    simp at hb
    exact hne hb.2.1.symm
theorem two_cells {w : World} {b : Nat} {x y : Value} {t : TypeId} {fr : Nat × Nat} (hb : w.heap[b]? = some (.cells #[x, y] t fr)) : w.cell? ⟨b, 0, none⟩ = some x ∧ w.cell? ⟨b, 1, none⟩ = some y := by
  constructor <;> simp [World.cell?, hb]

set_option maxHeartbeats 4000000 in
theorem ones_any (v : Value) (l : List Bl.R) (w : World) (hv : FieldsAt w.heap.size w v l) (hr : Bl.right (-1) l) :
    Calls Try.prog 25 #[v] w fun e w' => ∃ r, e = .returned r ∧ w'.ownsRow w.heap.size 56 2 r (Bl.ones l).length (cells1 (Bl.ones l)) ∧ Below w.heap.size w w' := by
  obtain ⟨i0, hi, hz0, hz1, hz2⟩ := info_parts infoOne
  obtain ⟨ao, cap, rfl, hm, hx⟩ := hv.open
  clear hv
  unfold maxLen at hm
  obtain ⟨n, hn⟩ : ∃ n, l.length = n := ⟨_, rfl⟩
  rw [hn] at hm hx ⊢
  have HN : Hid (l.length = n) := hn
  have HX : Hid (∀ j, j < n → ∃ b off, ao = some ⟨b, off, none⟩ ∧ b < w.heap.size ∧ w.cell? ⟨b, off + j * 2, none⟩ = some (.int .i64 (l.getD j (0, .empty)).1) ∧ w.cell? ⟨b, off + j * 2 + 1, none⟩ = some (.string (l.getD j (0, .empty)).2)) := hx
  have HR : Hid (Bl.right (-1) l) := hr
  have HT : Hid (∀ k, (Bl.ones (l.take k)).length ≤ 1048577) := fun k => by
    have h := Bl.right_total (Bl.right_take hr k) (by decide)
    have h2 : (Bl.total (l.take k) : Int) + (l.take k).length ≤ 1048576 - -1 := h
    rw [Bl.ones_length]
    omega
  clear hn hx hr
  go_enter Try.func25, Try.ntmps25
  go_wp2
  go_loopw [3, 9] (fun t i wr => ∃ k : Nat, k ≤ n ∧ i = .int .i64 k ∧ wr.ownsRow w.heap.size 56 2 t (Bl.ones (l.take k)).length (cells1 (Bl.ones (l.take k))) ∧ Below w.heap.size w wr) (fun _ i _ => n - (intOf i).toNat)
  case atStart => exact ⟨0, Nat.zero_le _, rfl, World.ownsRow_nil _ _ _ _, Below.refl _ _⟩
  case round =>
    rename_i t3 _
    obtain ⟨k, hk, rfl, hown, hbl⟩ := hrel
    have hsz := hbl.size
    by_cases hlt : k < n
    · obtain ⟨b, off, rfl, hB, c0, c1⟩ := HX.out k hlt
      have hk' : k < l.length := by rw [HN.out]; exact hlt
      rw [← hbl.cell (p := ⟨b, off + k * 2, none⟩) hB] at c0
      rw [← hbl.cell (p := ⟨b, off + k * 2 + 1, none⟩) hB] at c1
      obtain ⟨x, hxk⟩ : ∃ x, l.getD k (0, .empty) = x := ⟨_, rfl⟩
      rw [hxk] at c0 c1
      have HXK : Hid (l.getD k (0, .empty) = x) := hxk
      have hmem : x ∈ l := by rw [← hxk]; simp [List.getD, hk']
      obtain ⟨q0, q1, q2⟩ := Bl.right_mem HR.out _ hmem
      have HOS : Hid (Bl.ones (l.take (k + 1)) = Bl.ones (l.take k) ++ Bl.onesFrom x.1 x.2.data.toList) := Bl.ones_take_succ l hk' hxk
      clear hxk hmem
      obtain ⟨xa, xs⟩ := x
      unfold Bl.rend at q2
      simp only at c0 c1 q0 q1 q2 HOS
      replace q2 : xa + (xs.size : Int) ≤ 1048576 := q2
      have hlt' : (k : Int) < (n : Int) := by omega
      have htk := HT.out (k + 1)
      rw [HOS.out, List.length_append, Bl.onesFrom_length] at htk
      have hxl : xs.data.toList.length = xs.size := by simp
      rw [hxl] at htk
      obtain ⟨P0, hP0⟩ : ∃ P0, Bl.ones (l.take k) = P0 := ⟨_, rfl⟩
      rw [hP0] at hown htk HOS
      have HP0 : Hid (Bl.ones (l.take k) = P0) := hP0
      clear hP0
      go_wp2
      obtain ⟨w0, hw0⟩ : ∃ w0, wr.alloc (BR xa xs) = w0 := ⟨_, rfl⟩
      obtain ⟨R, hR⟩ : ∃ R, wr.heap.size = R := ⟨_, rfl⟩
      have hown0 := hown.alloc (BR xa xs)
      have hbl0 := hbl.alloc hsz (BR xa xs)
      have hbox : (wr.alloc (BR xa xs)).heap[wr.heap.size]? = some (BR xa xs) := heap_alloc_new _ _
      have hRs : wr.heap.size < (wr.alloc (BR xa xs)).heap.size := by simp
      rw [hw0] at hown0 hbl0 hbox hRs
      rw [hR] at hbox hRs hsz
      rw [hw0, hR]
      clear hw0 hown hbl c0 c1
      go_loopw [3, 6] (fun t j wi => ∃ q : Nat, q ≤ xs.size ∧ j = .int .i64 q ∧ wi.ownsRow w.heap.size 56 2 t (P0 ++ Bl.onesFrom xa (xs.data.toList.take q)).length (cells1 (P0 ++ Bl.onesFrom xa (xs.data.toList.take q))) ∧ wi.heap[R]? = some (BR xa xs) ∧ Below w.heap.size w wi) (fun _ j _ => xs.size - (intOf j).toNat)
      case atStart => exact ⟨0, Nat.zero_le _, rfl, by simpa [Bl.onesFrom] using hown0, hbox, hbl0⟩
      case round =>
        obtain ⟨q, hq, rfl, hown, hbx, hbl⟩ := hrel
        by_cases hlq : q < xs.size
        · obtain ⟨c0, c1⟩ := two_cells hbx
          have hsw := hbl.size
          have HOF : Hid (Bl.onesFrom xa (xs.data.toList.take (q + 1)) = Bl.onesFrom xa (xs.data.toList.take q) ++ [(xa + (q : Int), xs[q])]) := Bl.onesFrom_take_succ xa xs q hlq
          have hNl : (P0 ++ Bl.onesFrom xa (xs.data.toList.take q)).length ≤ 1048577 := by
            rw [List.length_append, Bl.onesFrom_length, List.length_take, hxl]
            omega
          obtain ⟨L0, hL0⟩ : ∃ L0, P0 ++ Bl.onesFrom xa (xs.data.toList.take q) = L0 := ⟨_, rfl⟩
          rw [hL0] at hown hNl
          have HL0 : Hid (P0 ++ Bl.onesFrom xa (xs.data.toList.take (q + 1)) = L0 ++ [(xa + (q : Int), xs[q])]) := by
            show P0 ++ Bl.onesFrom xa (xs.data.toList.take (q + 1)) = _
            rw [HOF.out, ← List.append_assoc, hL0]
          clear hL0
          have hlq' : (q : Int) < (xs.size : Int) := by omega
          have hq0 : (0 : Int) ≤ (q : Int) := by omega
          have hby : (xs[q]).toNat < 256 := (xs[q]).toNat_lt
          have hwr : IntKind.i64.wrap (xa + (q : Int)) = xa + (q : Int) := wrap_int _ (by omega) (by omega)
          have HC : Hid (wr.cell? ⟨R, 0, none⟩ = some (.int .i64 xa) ∧ wr.cell? ⟨R, 1, none⟩ = some (.string xs)) := ⟨c0, c1⟩
          go_wp2
          go_region_held3 (fun w' => w'.cell? ⟨R, 0, none⟩ = some (.int .i64 xa) ∧ w'.cell? ⟨R, 1, none⟩ = some (.string xs)) (first | exact HC.out | assumption | exact two_alloc _ HC.out | exact two_alloc _ (by assumption) | exact two_cells (keep_two ((hown.alloc _).drew) (by assumption) ((Below.heap_alloc _ _ _ (Array.getElem?_eq_some_iff.1 hbx).1).trans hbx) (by decide))) ((refine step_append_lies _ (by rfl) _ _ _ (by rfl) w.heap.size 56 i0 (.agg #[.int .i64 0, .int .u8 0]) 2 16 Try.underlying53 hi hz0 hz1 hz2 rfl (by decide) _ L0.length _ (by rfl) ((hown.alloc _).drew) ⟨wr.heap.size, 0, none⟩ 1 1 [.int .i64 (xa + (q : Int)), .int .u8 ((xs[q]).toNat : Int)] (by rfl) (by rfl) (World.news_of_block (cs := #[.int .i64 (xa + (q : Int)), .int .u8 ((xs[q]).toNat : Int)]) (t := 56) (fr := (0, 0)) (heap_alloc_new wr _)) (by simp [Value.oneCell']) (by omega) (by unfold maxLen; omega) (by omega) (by simp; omega) (wr.heap.size + 1) (by simp) ?_; intro gg cap w1 hown1 hgrow hat hlt1))
          all_goals go_wp2
          all_goals
            go_roundw
            case rel =>
              refine ⟨q + 1, by omega, by go_num, ?_, keep_two ((hown.alloc _).drew) hgrow ((Below.heap_alloc _ _ _ (Array.getElem?_eq_some_iff.1 hbx).1).trans hbx) (by decide), ((hbl.alloc hsw _).drew).grown hgrow (by simp; omega) (fun g hg => (hown.lt g hg).1)⟩
              rw [HL0.out, cells1_append, List.length_append]
              exact hown1
            case measure => simp [intOf]; omega
        · obtain rfl : q = xs.size := by omega
          obtain ⟨c0, c1⟩ := two_cells hbx
          go_wp2
          go_roundw
          case rel =>
            refine ⟨k + 1, by omega, by go_num, ?_, hbl⟩
            rw [HOS.out]
            rw [List.take_of_length_le (by simp)] at hown
            exact hown
          case measure => simp [intOf]; omega
    · obtain rfl : k = n := by omega
      go_wp2
      go_ret
      refine ⟨_, rfl, ?_, hbl⟩
      rw [← HN.out, List.take_length] at hown
      exact hown
end Go.Proofs.Ytkkaendfcfkbbaa
