/-
  inbox.Drain; the two texts that every statement asks.
-/
import Derived.Test.YtocainggkdmojaaITake
import Derived.Test.YtocainggkdmojaaRow
import Derived.BigQuiet
import Derived.Deep.QuietTactic
import Derived.Deep.RegionHeld3
import Derived.Deep.SlicePairs
namespace Go.Proofs.Ytocainggkdmojaa
open Go.Conc Go.RowKit Go.ChangeShapes Go.WideShapes Go.ChangeAt Go.Deep
def ES : Enc ByteArray := { sz := 1, cells := fun x => [.string x], len := fun _ => rfl, one := fun x u hu => by simp at hu; subst hu; rfl }
theorem infoSS : (Try.prog.info? 9).map (fun i => (i.zero, i.size, i.bytes)) = some (some (.string ⟨#[]⟩), 1, 16) := by kernel_rfl
theorem bup {w w1 w2 : World} (h1 : Below w.heap.size w w1) (h2 : Below w1.heap.size w1 w2) : Below w.heap.size w w2 := h1.trans (h2.mono h1.size)
theorem below_alloc (w : World) (o : Obj) : Below w.heap.size w (w.alloc o) := (Below.refl _ _).alloc (Nat.le_refl _) _
theorem In.below {w w' : World} {B cu cn room : Nat} {cl : Bool} {U N : List ByteArray} (h : In w B cu cn room cl U N) (hb : Below w.heap.size w w') : In w' B cu cn room cl U N := by
  obtain ⟨s1, r1, e1⟩ := h.u
  obtain ⟨s2, r2, e2⟩ := h.n
  exact h.up (hb.block _ (Array.getElem?_eq_some_iff.1 h.bx).1) (hb.block _ (Array.getElem?_eq_some_iff.1 e1).1) (hb.block _ (Array.getElem?_eq_some_iff.1 e2).1)
theorem Row.oth {w w' : World} {B cu cn room n : Nat} {cl : Bool} {U N : List ByteArray} {v : Value} {ls : List ByteArray} (h : Row ES w n 9 v ls) (hi : In w B cu cn room cl U N) (ho : Oth B cu cn w w') : Row ES w' n 9 v ls := by
  rcases h with h | ⟨g, cap, cur, rfl, hB, hg, hr⟩
  · exact .inl h
  · obtain ⟨s1, r1, e1⟩ := hi.u
    obtain ⟨s2, r2, e2⟩ := hi.n
    refine .inr ⟨g, cap, cur, rfl, hB, (ho.block g (Array.getElem?_eq_some_iff.1 hg).1 ?_ ?_ ?_).trans hg, hr⟩
    · rintro rfl; rw [hi.bx] at hg; simp at hg
    · rintro rfl; rw [e1] at hg; simp at hg
    · rintro rfl; rw [e2] at hg; simp at hg
theorem In.app {w w' : World} {B cu cn room n : Nat} {cl : Bool} {U N : List ByteArray} {v : Value} {ls : List ByteArray} (h : In w B cu cn room cl U N) (hr : Row ES w n 9 v ls) (hg : w.grownBy w' v.ownBlock) : In w' B cu cn room cl U N := by
  obtain ⟨s1, r1, e1⟩ := h.u
  obtain ⟨s2, r2, e2⟩ := h.n
  have k : ∀ (j : Nat) (o : Obj), w.heap[j]? = some o → (∀ cs z, o ≠ .cells cs 9 z) → some j ≠ v.ownBlock := fun j o hj ho e => by
    rcases hr with ⟨rfl, -⟩ | ⟨g, cap, cur, rfl, -, hh, -⟩
    · cases e
    · simp only [Value.ownBlock, Option.some.injEq] at e
      subst e
      rw [hh] at hj
      exact ho _ _ (Option.some.inj hj).symm
  exact h.up (hg.block _ (Array.getElem?_eq_some_iff.1 h.bx).1 (k _ _ h.bx (fun _ _ e => by simp at e))) (hg.block _ (Array.getElem?_eq_some_iff.1 e1).1 (k _ _ e1 (fun _ _ e => by simp at e))) (hg.block _ (Array.getElem?_eq_some_iff.1 e2).1 (k _ _ e2 (fun _ _ e => by simp at e)))
theorem oth_row {w0 w w' : World} {B cu cn : Nat} {v : Value} {ls : List ByteArray} (hr : Row ES w w0.heap.size 9 v ls) (h0 : Oth B cu cn w0 w) (hg : w.grownBy w' v.ownBlock) : Oth B cu cn w0 w' := by
  refine ⟨hg.os.trans h0.os, hg.tape.trans h0.tape, hg.output.trans h0.output, Nat.le_trans h0.size hg.size, fun k hk a b c => (hg.block k (Nat.lt_of_lt_of_le hk h0.size) ?_).trans (h0.block k hk a b c)⟩
  intro e
  rcases hr with ⟨rfl, -⟩ | ⟨g, cap, cur, rfl, hB, hh, -⟩
  · cases e
  · simp only [Value.ownBlock, Option.some.injEq] at e
    omega
theorem Row.slice3 {α : Type} {E : Enc α} {w : World} {B : Nat} {e : TypeId} {v : Value} {ls : List α} (h : Row E w B e v ls) : ∃ p n c, v = .slice p n c := by
  obtain ⟨p, c, h⟩ := h.slice
  exact ⟨p, _, c, h⟩
theorem at_oneS {w : World} {A : Nat} {y : ByteArray} (h : w.heap[A]? = some (.cells #[.string y] 9)) : AtW ES w (.slice (some ⟨A, 0, none⟩) 1 1) [y] := by
  refine .inr ⟨A, 0, 1, rfl, trivial, (Array.getElem?_eq_some_iff.1 h).1, by simp, by simp, by unfold maxLen; omega, fun j u hj => ?_⟩
  have c0 : w.cell? ⟨A, 0, none⟩ = some (.string y) := by simp [World.cell?, h]
  match j, hj with
  | 0, hj => simp [Enc.flat, ES] at hj; subst hj; exact c0
/-- How many texts are in the rows. -/
def lf (cu cn : Nat) (w : World) : Nat := (match w.heap[cu]? with | some (.chan _ b _ _ _ _) => b.size | _ => 0) + (match w.heap[cn]? with | some (.chan _ b _ _ _ _) => b.size | _ => 0)
theorem In.lf {w : World} {B cu cn room : Nat} {cl : Bool} {U N : List ByteArray} (h : In w B cu cn room cl U N) : lf cu cn w = U.length + N.length := by
  obtain ⟨s1, r1, e1⟩ := h.u
  obtain ⟨s2, r2, e2⟩ := h.n
  unfold Go.Proofs.Ytocainggkdmojaa.lf
  rw [e1, e2]
  simp [vs_size]
/-- While it is drained. -/
structure Dr (w0 : World) (B cu cn room : Nat) (cl : Bool) (T : List ByteArray) (acc U N : List ByteArray) (v : Value) (w : World) : Prop where
  inb : In w B cu cn room cl U N
  row : Row ES w w0.heap.size 9 v acc
  oth : Oth B cu cn w0 w
  eq : T = acc ++ (U ++ N)
set_option maxHeartbeats 2000000 in
theorem drain_any (B cu cn room : Nat) (cl : Bool) (U N : List ByteArray) (w : World) (h : In w B cu cn room cl U N) (hl : U.length + N.length ≤ 60000) : Calls Try.prog 13 #[.pointer (some ⟨B, 0, none⟩)] w fun e w' => ∃ p n c, e = .returned (.slice p n c) ∧ Row ES w' w.heap.size 9 (.slice p n c) (U ++ N) ∧ In w' B cu cn room cl [] [] ∧ Oth B cu cn w w' := by
  have H0 : Hid (Dr w B cu cn room cl (U ++ N) [] U N (.slice none 0 0) w) := ⟨h, Row.nil _ _ _ _, Oth.refl _ _ _ _, rfl⟩
  have HL : Hid ((U ++ N).length ≤ 60000) := by show _ ≤ _; rw [List.length_append]; exact hl
  obtain ⟨i0, hi, hz0, hz1, hz2⟩ := info_parts infoSS
  clear h hl
  go_enter Try.func13, Try.ntmps13
  go_wp2
  go_loopw [3] (fun u wr => ∃ (acc U' N' : List ByteArray) (pp : Option Addr) (jj q : Nat), u = .slice pp jj q ∧ Hid (Dr w B cu cn room cl (U ++ N) acc U' N' (.slice pp jj q) wr)) (fun _ wr => lf cu cn wr)
  case atStart => exact ⟨[], U, N, none, 0, 0, rfl, H0.out⟩
  case round =>
    obtain ⟨acc, U', N', pp, jj, q, rfl, HR⟩ := hrel
    clear H0
    have HLF : Hid (lf cu cn wr = U'.length + N'.length) := HR.out.inb.lf
    go_wp2_with fail
    refine (take_any B cu cn room cl U' N' _ HR.out.inb).mono ?_
    rintro e w1 ⟨rfl, hi1, ho1⟩
    have HI : Hid (In w1 B cu cn room cl U'.tail (tkN U' N') ∧ Row ES w1 w.heap.size 9 (.slice pp jj q) acc ∧ Oth B cu cn w w1) := ⟨hi1, HR.out.row.oth HR.out.inb ho1, HR.out.oth.trans ho1⟩
    clear hi1 ho1
    by_cases he : tkE U' N' = 0
    · have HT : Hid (U' ++ N' = tkS U' N' :: (U'.tail ++ tkN U' N') ∧ U'.length + N'.length = U'.tail.length + (tkN U' N').length + 1) := by
        match U', N', he with
        | x :: U', N', _ => exact ⟨rfl, by simp [tkN]; omega⟩
        | [], x :: N', _ => exact ⟨rfl, by simp [tkN]⟩
        | [], [], he => simp [tkE] at he
      rw [he]
      clear he
      generalize tkS U' N' = y at *
      generalize tkB U' = yb at *
      generalize U'.tail = U2 at *
      generalize tkN U' N' = N2 at *
      have HO : Hid (AtW ES (w1.alloc (.cells #[.string y] 9)) (.slice (some ⟨w1.heap.size, 0, none⟩) 1 1) [y]) := at_oneS (heap_alloc_new _ _)
      have M1 : Hid (In (w1.alloc (.cells #[.string y] 9)) B cu cn room cl U2 N2 ∧ Row ES (w1.alloc (.cells #[.string y] 9)) w.heap.size 9 (.slice pp jj q) acc ∧ Oth B cu cn w (w1.alloc (.cells #[.string y] 9))) := ⟨HI.out.1.below (below_alloc _ _), HI.out.2.1.up (below_alloc _ _), HI.out.2.2.trans (Oth.of (below_alloc _ _))⟩
      have HAL : Hid (acc.length ≤ 60000) := by
        have := HL.out
        rw [HR.out.eq, List.length_append] at this
        show _ ≤ _
        omega
      go_wp2_with (at_builtin; refine wpList_row _ rfl _ _ 36 rfl ES (fun _ => True) w.heap.size 9 i0 _ 16 Try.underlying36 hi hz0 hz1 hz2 rfl _ acc (by rfl) M1.out.2.1 _ [y] (by rfl) HO.out (by have := HAL.out; unfold maxLen; simp only [List.length_cons, List.length_nil]; omega) (by have := HAL.out; simp only [List.length_cons, List.length_nil]; omega) M1.out.2.2.size ?_; intro v9 w9 hrow9 hg9 hloc9; have M9 : Hid (In w9 B cu cn room cl U2 N2 ∧ Row ES w9 w.heap.size 9 v9 (acc ++ [y]) ∧ Oth B cu cn w w9) := ⟨M1.out.1.app M1.out.2.1 hg9, hrow9, oth_row M1.out.2.1 M1.out.2.2 hg9⟩; obtain ⟨p9, n9, c9, rfl⟩ := hrow9.slice3; clear hrow9 hg9 hloc9)
      go_roundw
      case rel => exact ⟨acc ++ [y], U2, N2, p9, n9, c9, rfl, ⟨M9.out.1, M9.out.2.1, M9.out.2.2, by rw [HR.out.eq, HT.out.1]; simp⟩⟩
      case measure => rw [M9.out.1.lf, HLF.out, HT.out.2]; omega
    · have HT : Hid (U' = [] ∧ N' = []) := by
        match U', N', he with
        | x :: U', N', he => exact absurd rfl he
        | [], x :: N', he => exact absurd rfl he
        | [], [], _ => exact ⟨rfl, rfl⟩
      have he' : (tkE U' N' != 0) = true := by simpa using he
      have HQ : Hid (In w1 B cu cn room cl [] [] ∧ Row ES w1 w.heap.size 9 (.slice pp jj q) (U ++ N) ∧ Oth B cu cn w w1) := by
        obtain ⟨rfl, rfl⟩ := HT.out
        refine ⟨HI.out.1, ?_, HI.out.2.2⟩
        rw [HR.out.eq]
        simpa using HI.out.2.1
      clear he
      generalize tkE U' N' = ee at *
      generalize tkS U' N' = y at *
      generalize tkB U' = yb at *
      go_wp2
      go_ret
      exact ⟨pp, jj, q, rfl, HQ.out.2.1, HQ.out.1, HQ.out.2.2⟩
end Go.Proofs.Ytocainggkdmojaa
