/-
  The document's answer: sextonref10.asked, sextonref10.Find.
-/
import Derived.Test.YtacghcoikekfeaaGreatFRefB
namespace Go.Proofs.YtacghcoikekfeaaGreat
open Go.ChangeShapes Go.WideShapes Go.ChangeAt Go.RowKit Go.Deep
set_option maxRecDepth 100000
theorem asked_any (v : Value) (l : List Ent) (next : Int) (s : ByteArray) (w : World) (hv : AtW EE w v l) (hs : ∀ x ∈ l, x.1.size ≤ maxLen) (hn : s.size ≤ maxLen) :
    Calls Tryz.prog 117 #[v, .int .i64 next, .string s] w fun e w' => e = .returned (.int .i64 (Fo.ask l next s)) ∧ Below w.heap.size w w' := by
  have HV : Hid (AtW EE w v l) := hv
  have HS : Hid (∀ x ∈ l, x.1.size ≤ maxLen) := hs
  have HN : Hid (s.size ≤ maxLen) := hn
  clear hv hs hn
  rcases Fo.err_or l next with ⟨he, hr⟩ | ⟨he, hr⟩
  · have HE : Hid (decide (Fo.err l next = 0) = true) := decide_eq_true he
    have HA : Hid (Fo.ask l next s = Nm.err s) := Fo.ask_right he
    rw [HA.out]
    clear he hr
    go_enter Tryz.func117, Tryz.ntmps117
    go_wp2_with fail
    refine (frright_any v l next _ HV.out HS.out).mono ?_
    rintro e w1 ⟨rfl, hb⟩
    rw [HE.out]
    have HB1 : Hid (Below w.heap.size w w1) := hb
    clear hb
    go_wp2_with fail
    refine (rname_any s _ HN.out).mono ?_
    rintro e w2 ⟨rfl, rfl⟩
    go_wp2
    go_ret
    exact ⟨rfl, HB1.out⟩
  · have HE : Hid (decide (Fo.err l next = 0) = false) := decide_eq_false (by rw [he]; decide)
    have HA : Hid (Fo.ask l next s = 4) := Fo.ask_wrong he
    rw [HA.out]
    clear he hr
    go_enter Tryz.func117, Tryz.ntmps117
    go_wp2_with fail
    refine (frright_any v l next _ HV.out HS.out).mono ?_
    rintro e w1 ⟨rfl, hb⟩
    rw [HE.out]
    go_wp2
    go_ret
    exact ⟨rfl, hb⟩
set_option maxHeartbeats 2000000 in
theorem frfind_any (v : Value) (l : List Ent) (next : Int) (s : ByteArray) (w : World) (hv : AtW EE w v l) (hs : ∀ x ∈ l, x.1.size ≤ maxLen) (hn : s.size ≤ maxLen) :
    Calls Tryz.prog 79 #[v, .int .i64 next, .string s] w fun e w' => e = .returned (.tuple #[VE (Fo.found l next s), .int .i64 (Fo.findErr l next s)]) ∧ Below w.heap.size w w' := by
  have HB0 : Hid (Below w.heap.size w (w.alloc BZE)) := (Below.refl _ w).alloc (Nat.le_refl _) _
  have HA0 : Hid ((w.alloc BZE).heap[w.heap.size]? = some BZE) := heap_alloc_new w BZE
  have HV : Hid (AtW EE (w.alloc BZE) v l) := hv.up HB0.out
  have HS : Hid (∀ x ∈ l, x.1.size ≤ maxLen) := hs
  have HNN : Hid (s.size ≤ maxLen) := hn
  obtain ⟨ao, cap, rfl, hm, hx⟩ := hv.open
  clear hv hs hn
  unfold maxLen at hm
  obtain ⟨m, hm'⟩ : ∃ m, l.length = m := ⟨_, rfl⟩
  rw [hm'] at hm HV ⊢
  have HLM : Hid (l.length = m) := hm'
  clear hm'
  rcases Fo.ask_or l next s with ⟨ha, -, -⟩ | ⟨ha, -⟩ | ⟨ha, -, -⟩
  · have HA : Hid (Fo.ask l next s = 0) := ha
    rcases Fo.at_or (Fo.called s) l with ⟨ht, -⟩ | ⟨k, x, ht, hxk, -, -⟩
    · have HT : Hid (Fo.at' (Fo.called s) l = -1) := ht
      have HE : Hid (Fo.findErr l next s = 402) := (Fo.findErr_miss ha ht).1
      have HF : Hid (Fo.found l next s = ((⟨#[]⟩, 0, 0, 0) : Ent)) := Fo.found_no HE.out (by decide)
      rw [HF.out, HE.out]
      clear ha ht hx
      go_enter Tryz.func79, Tryz.ntmps79
      go_wp2_with fail
      refine (asked_any _ l next s _ HV.out HS.out HNN.out).mono ?_
      rintro e w1 ⟨rfl, hb⟩
      rw [HA.out]
      have HB1 : Hid (Below w.heap.size w w1) := HB0.out.trans (hb.mono HB0.out.size)
      have HA1 : Hid (w1.heap[w.heap.size]? = some BZE) := (hb.block _ (by simp)).trans HA0.out
      have HV1 : Hid (AtW EE w1 (.slice ao m cap) l) := HV.out.up hb
      clear hb
      go_wp2_with fail
      refine (rplace_any _ l s _ HV1.out).mono ?_
      rintro e w2 ⟨rfl, hb⟩
      rw [HT.out]
      have HB2 : Hid (Below w.heap.size w w2) := HB1.out.trans (hb.mono HB1.out.size)
      have HA2 : Hid (w2.heap[w.heap.size]? = some BZE) := (hb.block _ (Array.getElem?_eq_some_iff.1 HA1.out).1).trans HA1.out
      obtain ⟨⟨z0, z1, z2, z3⟩, zf⟩ := four_of (x := ((⟨#[]⟩, 0, 0, 0) : Ent)) HA2.out
      simp only at z0 z1 z2 z3
      clear hb
      go_wp2
      (try simp only [Exit.inBlock, Exit.then])
      refine bodyPost_ret (v := .tuple #[.agg #[.string ⟨#[]⟩, .int .i64 0, .int .i64 0, .int .i64 0], .int .i64 402]) ?_ rfl ⟨rfl, ?_⟩
      · rw [results_cell_tmp rfl]
        go_simp
      · repeat (refine Below.setCell ?_ (by simp) _)
        exact HB2.out
    · have HT : Hid (Fo.at' (Fo.called s) l = k) := ht
      have HE : Hid (Fo.findErr l next s = 0) := (Fo.findErr_hit ha ht).1
      have HF : Hid (Fo.found l next s = x) := Fo.found_hit HE.out (Fo.findErr_hit ha ht).2 hxk
      have hk := (List.getElem?_eq_some_iff.1 hxk).1
      rw [HLM.out] at hk
      have hkI : (k : Int) < (m : Int) := by omega
      obtain ⟨bb, off, rfl, -, hB, hc⟩ := hx k x hxk
      have HC : Hid (∀ j u, (EE.cells x)[j]? = some u → w.cell? ⟨bb, off + (k * EE.sz + j), none⟩ = some u) := hc
      rw [HF.out, HE.out]
      clear ha ht hx hxk hc
      go_enter Tryz.func79, Tryz.ntmps79
      go_wp2_with fail
      refine (asked_any _ l next s _ HV.out HS.out HNN.out).mono ?_
      rintro e w1 ⟨rfl, hb⟩
      rw [HA.out]
      have HB1 : Hid (Below w.heap.size w w1) := HB0.out.trans (hb.mono HB0.out.size)
      have HA1 : Hid (w1.heap[w.heap.size]? = some BZE) := (hb.block _ (by simp)).trans HA0.out
      have HV1 : Hid (AtW EE w1 (.slice (some ⟨bb, off, none⟩) m cap) l) := HV.out.up hb
      clear hb
      go_wp2_with fail
      refine (rplace_any _ l s _ HV1.out).mono ?_
      rintro e w2 ⟨rfl, hb⟩
      rw [HT.out]
      have HB2 : Hid (Below w.heap.size w w2) := HB1.out.trans (hb.mono HB1.out.size)
      have HA2 : Hid (w2.heap[w.heap.size]? = some BZE) := (hb.block _ (Array.getElem?_eq_some_iff.1 HA1.out).1).trans HA1.out
      obtain ⟨⟨z0, z1, z2, z3⟩, zf⟩ := four_of (x := ((⟨#[]⟩, 0, 0, 0) : Ent)) HA2.out
      simp only at z0 z1 z2 z3
      have aa := fun j u hj => (HB2.out.cell (p := ⟨bb, off + (k * EE.sz + j), none⟩) hB).trans (HC.out j u hj)
      have c0 : w2.cell? ⟨bb, off + k * 4, none⟩ = some (.string x.1) := aa 0 _ rfl
      have c1 : w2.cell? ⟨bb, off + k * 4 + 1, none⟩ = some (.int .i64 x.2.1) := aa 1 _ rfl
      have c2 : w2.cell? ⟨bb, off + k * 4 + 2, none⟩ = some (.int .i64 x.2.2.1) := aa 2 _ rfl
      have c3 : w2.cell? ⟨bb, off + k * 4 + 3, none⟩ = some (.int .i64 x.2.2.2) := aa 3 _ rfl
      clear hb aa
      go_wp2
      (try simp only [Exit.inBlock, Exit.then])
      refine bodyPost_ret (v := .tuple #[VE x, .int .i64 0]) ?_ rfl ⟨rfl, ?_⟩
      · rw [results_cell_tmp rfl]
        go_simp
      · repeat (refine Below.setCell ?_ (by simp) _)
        exact HB2.out
  · have HA : Hid (Fo.ask l next s = 4) := ha
    have HE : Hid (Fo.findErr l next s = 4) := (Fo.findErr_ask ha (by decide)).1
    have HF : Hid (Fo.found l next s = ((⟨#[]⟩, 0, 0, 0) : Ent)) := Fo.found_no HE.out (by decide)
    rw [HF.out, HE.out]
    clear ha hx
    go_enter Tryz.func79, Tryz.ntmps79
    go_wp2_with fail
    refine (asked_any _ l next s _ HV.out HS.out HNN.out).mono ?_
    rintro e w1 ⟨rfl, hb⟩
    rw [HA.out]
    have HB1 : Hid (Below w.heap.size w w1) := HB0.out.trans (hb.mono HB0.out.size)
    have HA1 : Hid (w1.heap[w.heap.size]? = some BZE) := (hb.block _ (by simp)).trans HA0.out
    obtain ⟨⟨z0, z1, z2, z3⟩, zf⟩ := four_of (x := ((⟨#[]⟩, 0, 0, 0) : Ent)) HA1.out
    simp only at z0 z1 z2 z3
    clear hb
    go_wp2
    (try simp only [Exit.inBlock, Exit.then])
    refine bodyPost_ret (v := .tuple #[.agg #[.string ⟨#[]⟩, .int .i64 0, .int .i64 0, .int .i64 0], .int .i64 4]) ?_ rfl ⟨rfl, ?_⟩
    · rw [results_cell_tmp rfl]
      go_simp
    · repeat (refine Below.setCell ?_ (by simp) _)
      exact HB1.out
  · have HA : Hid (Fo.ask l next s = 409) := ha
    have HE : Hid (Fo.findErr l next s = 409) := (Fo.findErr_ask ha (by decide)).1
    have HF : Hid (Fo.found l next s = ((⟨#[]⟩, 0, 0, 0) : Ent)) := Fo.found_no HE.out (by decide)
    rw [HF.out, HE.out]
    clear ha hx
    go_enter Tryz.func79, Tryz.ntmps79
    go_wp2_with fail
    refine (asked_any _ l next s _ HV.out HS.out HNN.out).mono ?_
    rintro e w1 ⟨rfl, hb⟩
    rw [HA.out]
    have HB1 : Hid (Below w.heap.size w w1) := HB0.out.trans (hb.mono HB0.out.size)
    have HA1 : Hid (w1.heap[w.heap.size]? = some BZE) := (hb.block _ (by simp)).trans HA0.out
    obtain ⟨⟨z0, z1, z2, z3⟩, zf⟩ := four_of (x := ((⟨#[]⟩, 0, 0, 0) : Ent)) HA1.out
    simp only at z0 z1 z2 z3
    clear hb
    go_wp2
    (try simp only [Exit.inBlock, Exit.then])
    refine bodyPost_ret (v := .tuple #[.agg #[.string ⟨#[]⟩, .int .i64 0, .int .i64 0, .int .i64 0], .int .i64 409]) ?_ rfl ⟨rfl, ?_⟩
    · rw [results_cell_tmp rfl]
      go_simp
    · repeat (refine Below.setCell ?_ (by simp) _)
      exact HB1.out
end Go.Proofs.YtacghcoikekfeaaGreat
