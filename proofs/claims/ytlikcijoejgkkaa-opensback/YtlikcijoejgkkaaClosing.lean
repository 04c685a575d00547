/-
  opens.Close: what it answers.
-/
import Derived.Test.YtlikcijoejgkkaaOpening
namespace Go.Proofs.Ytlikcijoejgkkaa
open Go.ChangeShapes Go.WideShapes Go.ChangeAt Go.RowKit Go.Deep
theorem results_tct {fn : Func} {p t u : Tmp} {ty : TypeId} (h : fn.results = #[.tmp t, .cell p ty, .tmp u]) (tmps : Array Value) (P : Program) (w : World) :
    (results fn tmps).run P w = ((asAddr (tmps.getD p undef)).run P w).andThen fun a w₁ => ((loadVar ty a).run P w₁).andThen fun v w₂ => .ok (.tuple #[tmps.getD t undef, v, tmps.getD u undef]) w₂ := by
  simp only [results, h]
  simp [Sem.run_bind, Result.andThen]
theorem At.setCell {α : Type} {E : Enc α} {S : Nat → Prop} {w : World} {v : Value} {l : List α} (h : At E S w v l) {p : Addr} (hp : ¬ S p.block) (u : Value) : At E S (w.setCell p u) v l :=
  h.keep (by simp [World.setCell]) fun b hS _ => ⟨Below.heap_setCell _ _ _ _ (fun e => hp (e ▸ hS)), hS⟩
theorem four_set {X : Nat} {x : Opn} {w : World} (h : Four X x w) {p : Addr} (hX : X ≠ p.block) (u : Value) : Four X x (w.setCell p u) :=
  ⟨(cell_block (Below.heap_setCell _ _ _ _ hX)).trans h.1, (cell_block (Below.heap_setCell _ _ _ _ hX)).trans h.2.1, (cell_block (Below.heap_setCell _ _ _ _ hX)).trans h.2.2.1, (cell_block (Below.heap_setCell _ _ _ _ hX)).trans h.2.2.2⟩
theorem hand_froz {w : World} {A : Nat} {no gen : Int} (h : w.heap[A]? = some (BH no gen)) : ∀ j, w.frozen? ⟨A, j, none⟩ = false := fun j => by simp [World.frozen?, h]
namespace Op
theorem find_own (l : List Opn) (c fd : Int) : l.find? (mine c fd) = (owned l c).find? (fun x => x.1 == fd) := by
  unfold owned
  rw [List.find?_filter]
  congr 1
  funext a
  rw [Bool.eq_iff_iff]
  simp [mine]
theorem owned_len (l : List Opn) (c : Int) : (owned l c).length ≤ l.length := List.length_filter_le _ _
end Op
set_option maxHeartbeats 4000000 in
theorem close_any (v : Value) (l : List Opn) (c fd : Int) (w : World) (hv : AtW EO w v l) :
    Calls Try.prog 20 #[v, .int .i64 c, .int .i64 fd] w fun e w' => ∃ p n q, e = .returned (.tuple #[.slice p n q, VH (Op.closeOf l c fd).1 (Op.closeOf l c fd).2, .int .i64 (Op.closeErr l c fd)]) ∧ At EO (fun b => w.heap.size ≤ b) w' (.slice p n q) (Op.closed l c fd) ∧ Below w.heap.size w w' := by
  have hv0 := hv
  obtain ⟨ao, cap, rfl, hm, -⟩ := hv0.open
  clear hv0
  unfold maxLen at hm
  obtain ⟨m, hlm⟩ : ∃ m, l.length = m := ⟨_, rfl⟩
  rw [hlm] at hm hv ⊢
  have HLM : Hid (l.length = m) := hlm
  clear hlm
  obtain ⟨W, hW⟩ : ∃ W, W = w.alloc (BH 0 0) := ⟨_, rfl⟩
  have HB0 : Hid (Below w.heap.size w W) := by show Below w.heap.size w W; rw [hW]; exact (Below.refl _ w).alloc (Nat.le_refl _) _
  have HA0 : Hid (W.heap[w.heap.size]? = some (BH 0 0)) := by show W.heap[w.heap.size]? = some (BH 0 0); rw [hW]; exact heap_alloc_new w (BH 0 0)
  have HV : Hid (AtW EO W (.slice ao m cap) l) := hv.up HB0.out
  clear hv
  by_cases ha : Op.ask l c = 0
  · have HR : Hid (l.length ≤ 16) := by
      rcases Op.ask_or l c with ⟨_, hr, _⟩ | ⟨h, _⟩ | ⟨h, _⟩
      · exact Op.right_len hr
      · omega
      · omega
    have HA : Hid (Op.ask l c = 0) := ha
    have HE : Hid (Op.closeErr l c fd = (match l.find? (Op.mine c fd) with | some _ => 0 | none => 411)) := if_pos ha
    have HO : Hid (Op.closeOf l c fd = (match l.find? (Op.mine c fd) with | some x => x.2.2 | none => (0, 0))) := if_pos ha
    have HC : Hid (Op.closed l c fd = (match l.find? (Op.mine c fd) with | some x => Op.without l [x] | none => [])) := if_pos ha
    obtain ⟨ce, hce⟩ : ∃ ce, Op.closeErr l c fd = ce := ⟨_, rfl⟩
    obtain ⟨o1, ho1⟩ : ∃ o1, (Op.closeOf l c fd).1 = o1 := ⟨_, rfl⟩
    obtain ⟨o2, ho2⟩ : ∃ o2, (Op.closeOf l c fd).2 = o2 := ⟨_, rfl⟩
    rw [hce, ho1, ho2]
    have HCE : Hid (Op.closeErr l c fd = ce ∧ (Op.closeOf l c fd).1 = o1 ∧ (Op.closeOf l c fd).2 = o2) := ⟨hce, ho1, ho2⟩
    clear ha hce ho1 ho2
    go_enter Try.func20, Try.ntmps20
    go_wp2_with fail
    rw [← hW]
    refine (refuse_any _ l c _ HV.out).mono ?_
    rintro e w1 ⟨rfl, hb⟩
    rw [HA.out]
    have HB1 : Hid (Below w.heap.size w w1) := HB0.out.trans (hb.mono HB0.out.size)
    have HA1 : Hid (w1.heap[w.heap.size]? = some (BH 0 0)) := (hb.block _ (Array.getElem?_eq_some_iff.1 HA0.out).1).trans HA0.out
    have HV1 : Hid (AtW EO w1 (.slice ao m cap) l) := HV.out.up hb
    clear hb hW
    go_wp2_with fail
    refine (owned_any _ l c _ HV1.out (by have := HR.out; omega)).mono ?_
    rintro e w2 ⟨p2, n2, q2, rfl, h2, hb⟩
    have HB2 : Hid (Below w.heap.size w w2) := HB1.out.trans (hb.mono HB1.out.size)
    have HA2 : Hid (w2.heap[w.heap.size]? = some (BH 0 0)) := (hb.block _ (Array.getElem?_eq_some_iff.1 HA1.out).1).trans HA1.out
    have HV2 : Hid (AtW EO w2 (.slice ao m cap) l) := HV1.out.up hb
    obtain ⟨g, hg⟩ : ∃ g, Op.owned l c = g := ⟨_, rfl⟩
    have HG : Hid (Op.owned l c = g) := hg
    rw [hg] at h2
    obtain ⟨ao2, cap2, hve, -, hx2⟩ := h2.wide.open
    simp only [Value.slice.injEq] at hve
    obtain ⟨rfl, rfl, rfl⟩ := hve
    obtain ⟨n, hn⟩ : ∃ n, g.length = n := ⟨_, rfl⟩
    rw [hn]
    have HN : Hid (g.length = n) := hn
    have HX : Hid (Over w2 p2 g) := hx2
    have hn16 : n ≤ 16 := by have h1 := Op.owned_len l c; have := HR.out; rw [hg, hn] at h1; omega
    have hws : w.heap.size < w2.heap.size := (Array.getElem?_eq_some_iff.1 HA2.out).1
    clear hb h2 hx2 hg hn
    go_wp2
    go_loopw [23] (fun i wr => ∃ (k : Nat), k ≤ n ∧ i = .int .i64 k ∧ Hid (l.find? (Op.mine c fd) = (g.drop k).find? (fun x => x.1 == fd)) ∧ Hid (Below w2.heap.size w2 wr)) (fun i _ => n - (intOf i).toNat)
    case atStart => exact ⟨0, Nat.zero_le _, rfl, by rw [List.drop_zero, ← HG.out]; exact Op.find_own l c fd, Below.refl _ _⟩
    case round =>
      obtain ⟨k, hk, rfl, HP, HB⟩ := hrel
      have HB3 : Hid (Below w.heap.size w wr) := HB2.out.trans (HB.out.mono HB2.out.size)
      have hsz := HB.out.size
      have HAR : Hid (wr.heap[w.heap.size]? = some (BH 0 0)) := (HB.out.block _ hws).trans HA2.out
      by_cases hlt : k < n
      · obtain ⟨x, hxk⟩ : ∃ x, g[k]? = some x := ⟨_, List.getElem?_eq_getElem (by rw [HN.out]; exact hlt)⟩
        have HXK : Hid (g[k]? = some x) := hxk
        obtain ⟨b, off, rfl, -, hB, hc⟩ := HX.out k x hxk
        obtain ⟨c0, c1, c2, c3⟩ := opn_cells HB.out hB hc
        clear hc hxk
        have hlt' : (k : Int) < (n : Int) := by omega
        by_cases gx : x.1 = fd
        · have HF : Hid (l.find? (Op.mine c fd) = some x) := by
            have := HP.out
            rw [Op.drop_at HXK.out, List.find?_cons_of_pos (by simp [gx])] at this
            exact this
          have HEE : Hid (ce = 0 ∧ o1 = x.2.2.1 ∧ o2 = x.2.2.2 ∧ Op.closed l c fd = Op.without l [x]) := by
            have e1 := HE.out
            have e2 := HO.out
            have e3 := HC.out
            have e4 := HCE.out
            rw [HF.out] at e1 e2 e3
            simp only at e1 e2 e3
            rw [e1, e2] at e4
            exact ⟨e4.1.symm, e4.2.1.symm, e4.2.2.symm, e3⟩
          have g1 : (x.1 == fd) = true := by simp [gx]
          have HSS : Hid (Four wr.heap.size x (wr.alloc (BO x))) := (opn_of (heap_alloc_new wr (BO x))).1
          have HB4 : Hid (Below w.heap.size w ((wr.alloc (BO x)).alloc (BO x))) := (HB3.out.alloc (by omega) _).alloc (by simp; omega) _
          have HV4 : Hid (AtW EO ((wr.alloc (BO x)).alloc (BO x)) (.slice ao m cap) l) := ((HV2.out.up HB.out).up ((Below.refl _ _).alloc (Nat.le_refl _) _)).up ((Below.refl _ _).alloc (Nat.le_refl _) _)
          have HX4 : Hid (AtW EO ((wr.alloc (BO x)).alloc (BO x)) (.slice (some ⟨wr.heap.size + 1, 0, none⟩) 1 1) [x]) := at_two wr x
          have HZ : Hid (∀ w5, Below ((wr.alloc (BO x)).alloc (BO x)).drew.heap.size ((wr.alloc (BO x)).alloc (BO x)).drew w5 → w5.heap[w.heap.size]? = some (BH 0 0)) := fun w5 hb => by
            have hl := (Array.getElem?_eq_some_iff.1 HAR.out).1
            rw [hb.block _ (by show _ < Array.size _; simp; omega)]
            exact (Below.heap_alloc _ _ _ (by simp; omega)).trans ((Below.heap_alloc _ _ _ hl).trans HAR.out)
          have hne1 : wr.heap.size ≠ w.heap.size := by omega
          have hl4 : m ≤ 4398046511104 := by have := HR.out; have := HLM.out; omega
          clear gx
          go_wp2_with fail
          go_region_held3 (fun w' => w'.cell? ⟨wr.heap.size, 0, none⟩ = some (.int .i64 x.1) ∧ w'.cell? ⟨wr.heap.size, 1, none⟩ = some (.int .i64 x.2.1) ∧ w'.cell? ⟨wr.heap.size, 2, none⟩ = some (.int .i64 x.2.2.1) ∧ w'.cell? ⟨wr.heap.size, 3, none⟩ = some (.int .i64 x.2.2.2)) (first | exact HSS.out | exact four_drew HSS.out | exact four_drew (four_alloc HSS.out _) | exact four_alloc HSS.out _ | exact four_step (four_drew (four_alloc HSS.out _)) (by assumption) | exact four_set (four_step (four_drew (four_alloc HSS.out _)) (by assumption)) hne1 _ | exact four_set (four_set (four_step (four_drew (four_alloc HSS.out _)) (by assumption)) hne1 _) hne1 _) (first
            | (go_at_call 31; refine (without_any _ _ l [x] ((wr.alloc (BO x)).alloc (BO x)).drew HV4.out HX4.out (by rw [HLM.out]; exact hl4)).mono ?_; rintro e w5 ⟨pu, nu, cu, rfl, hr, hb5⟩; have hz5 := hand_of (HZ.out w5 hb5); have hf5 := hand_froz (HZ.out w5 hb5); obtain ⟨z0, z1⟩ := hz5))
          have HEND : Hid (At EO (fun b => wr.heap.size ≤ b) w5 (.slice pu nu cu) (Op.without l [x]) ∧ Below w.heap.size w w5) := by
            exact ⟨hr.imp (fun b hb _ => by have hb' : ((wr.alloc (BO x)).alloc (BO x)).heap.size ≤ b := hb; simp at hb'; omega), HB4.out.trans ((undrew hb5).mono HB4.out.size)⟩
          clear hr hb5
          go_wp2
          (try simp only [Exit.inBlock, Exit.then])
          refine bodyPost_ret (v := .tuple #[.slice pu nu cu, VH x.2.2.1 x.2.2.2, .int .i64 0]) ?_ rfl ⟨pu, nu, cu, by rw [HEE.out.1, HEE.out.2.1, HEE.out.2.2.1], ?_, ?_⟩
          · rw [results_tct rfl]
            go_simp
          · rw [HEE.out.2.2.2]
            refine At.imp (S := fun b => wr.heap.size ≤ b) ?_ (fun b hb _ => by omega)
            repeat (refine At.setCell ?_ (by simp; omega) _)
            exact HEND.out.1
          · repeat (refine Below.setCell ?_ (by simp) _)
            exact HEND.out.2
        · have HP2 : Hid (l.find? (Op.mine c fd) = (g.drop (k + 1)).find? (fun x => x.1 == fd)) := by
            have := HP.out
            rw [Op.drop_at HXK.out, List.find?_cons_of_neg (by simp [gx])] at this
            exact this
          have g1 : (x.1 == fd) = false := beq_eq_false_iff_ne.2 gx
          clear gx
          go_wp2
          go_roundw
          case rel => exact ⟨k + 1, by omega, by go_num, HP2, HB.out.alloc hsz _⟩
          case measure => simp [intOf]; omega
      · obtain rfl : k = n := by omega
        have HEE : Hid (ce = 411 ∧ o1 = 0 ∧ o2 = 0 ∧ Op.closed l c fd = []) := by
          have e1 := HE.out
          have e2 := HO.out
          have e3 := HC.out
          have e4 := HCE.out
          have hf := HP.out
          rw [← HN.out, List.drop_length, List.find?_nil] at hf
          rw [hf] at e1 e2 e3
          simp only at e1 e2 e3
          rw [e1, e2] at e4
          exact ⟨e4.1.symm, e4.2.1.symm, e4.2.2.symm, e3⟩
        obtain ⟨z0, z1⟩ := hand_of HAR.out
        have zf := hand_froz HAR.out
        go_wp2
        (try simp only [Exit.inBlock, Exit.then])
        refine bodyPost_ret (v := .tuple #[.slice none 0 0, VH 0 0, .int .i64 411]) ?_ rfl ⟨none, 0, 0, by rw [HEE.out.1, HEE.out.2.1, HEE.out.2.2.1], by rw [HEE.out.2.2.2]; exact At.nil, ?_⟩
        · rw [results_tct rfl]
          go_simp
        · repeat (refine Below.setCell ?_ (by simp) _)
          exact HB3.out
  · have HE : Hid (Op.closeErr l c fd = Op.ask l c) := if_neg ha
    have HO : Hid (Op.closeOf l c fd = (0, 0)) := if_neg ha
    have HC : Hid (Op.closed l c fd = []) := if_neg ha
    rw [HE.out, HO.out]
    obtain ⟨a, haa⟩ : ∃ a, Op.ask l c = a := ⟨_, rfl⟩
    have HA : Hid (Op.ask l c = a) := haa
    rw [haa] at ha ⊢
    have hne : (a == 0) = false := beq_eq_false_iff_ne.2 ha
    clear ha haa
    go_enter Try.func20, Try.ntmps20
    go_wp2_with fail
    rw [← hW]
    refine (refuse_any _ l c _ HV.out).mono ?_
    rintro e w1 ⟨rfl, hb⟩
    rw [HA.out]
    have HB1 : Hid (Below w.heap.size w w1) := HB0.out.trans (hb.mono HB0.out.size)
    have HA1 : Hid (w1.heap[w.heap.size]? = some (BH 0 0)) := (hb.block _ (Array.getElem?_eq_some_iff.1 HA0.out).1).trans HA0.out
    obtain ⟨z0, z1⟩ := hand_of HA1.out
    have zf := hand_froz HA1.out
    clear hb hW
    go_wp2
    (try simp only [Exit.inBlock, Exit.then])
    refine bodyPost_ret (v := .tuple #[.slice none 0 0, VH 0 0, .int .i64 a]) ?_ rfl ⟨none, 0, 0, rfl, by rw [HC.out]; exact At.nil, ?_⟩
    · rw [results_tct rfl]
      go_simp
    · repeat (refine Below.setCell ?_ (by simp) _)
      exact HB1.out
end Go.Proofs.Ytlikcijoejgkkaa
