/- NLaw, ZFst, ZPh, ZTake, ZRead, as one. -/
import Derived.Lib.MinMax
import Derived.Test.YtggoccfddnpelaaGreatDoorR16
namespace Go.Proofs.YtggoccfddnpelaaGreatDoor
open Go
set_option maxRecDepth 100000
namespace Fst
section
variable {P:Program} {ops:Array Oper} {Q:Exit->Act->World->Prop} {md:Region.Mode} {S:World->Prop} {late:Nat->Bool}
/-- A late operation has come up, or the world meets S. -/
def Sl (late:Nat->Bool) (S:World->Prop) (l:Array Bool) (w:World):Prop:=(∃ k,late k = true/\l.getD k false = true)∨S w
/-- Whatever order is picked from here on; S holds behind each operation till a late one has come up. -/
def anyL (P:Program) (md:Region.Mode) (ops:Array Oper) (Q:Exit->Act->World->Prop) (late:Nat->Bool) (S:World->Prop):Nat->Array Bool->Act->World->Prop
  | 0,l,a,w=>Region.ready md ops l = []/\Q .normal a w
  | n + 1,l,a,w=>(Region.ready md ops l = []->Q .normal a w)/\∀ i∈Region.ready md ops l,wpOp P ops Q i (fun a' w'=>Sl late S (l.setIfInBounds i true) w'/\anyL P md ops Q late S n (l.setIfInBounds i true) a' w') a w
theorem any_of:∀ (n:Nat) (l:Array Bool) (a:Act) (w:World),anyL P md ops Q late S n l a w->wpAny P md ops Q n l a w
  | 0,_,_,_,h=>h
  | n + 1,_,_,_,h=>⟨h.1,fun i hi=>wpOp_mono (fun a' w' h'=>any_of n _ a' w' h'.2) (h.2 i hi)⟩
theorem unlisted {l:Array Bool} {i:Nat} (h:l.getD i true = false):l.getD i false = false:=by
  rcases Nat.lt_or_ge i l.size with h' | h'
  · simp [h'] at h ⊢;exact h
  · simp [Array.getElem?_eq_none h'] at h
theorem first {i : Nat} {oi : Oper} {v : Value} (hi : ops[i]? = some oi) (hsel : ∀ (j : Nat) (o : Oper) cs b, ops[j]? = some o → o.op ≠ .select cs b)
    (hQ:∀ c a w,Q (.panic c) (a.put oi.dst v) w->Q (.panic c) a w) (hli:late i = false)
    (hw:∀ j oj,ops[j]? = some oj->late j = true->∃ e∈oj.after,Region.binds md e = true/\(e.on = i∨late e.on = true)) :
    ∀ (n : Nat) (l : Array Bool) (a : Act) (w : World),
      (∀ j oj,ops[j]? = some oj->j≠i->l.getD j true = false->(∀ e∈oj.after,Region.binds md e = true->e.on≠i)->oi.apart ops oj = true) ->
      i∈Region.ready md ops l->(∀ k,late k = true->l.getD k false = false)->YieldsIf P ops S oi v a->S w ->
      anyL P md ops Q late S n (l.setIfInBounds i true) (a.put oi.dst v) w->anyL P md ops Q late S (n + 1) l a w:=by
  intro n
  induction n with
  | zero =>
    intro l a w _ hr _ hy hS H
    refine ⟨fun h=>(by rw [h] at hr;cases hr),fun j hj=>?_⟩
    by_cases hji:j = i
    · subst hji;exact hy.wpOp hi hS ⟨.inr hS,H⟩
    · have := ready_mono hj hji
      rw [H.1] at this
      cases this
  | succ n ih =>
    intro l a w hfree hr hno hy hS H
    refine ⟨fun h=>(by rw [h] at hr;cases hr),fun j hj=>?_⟩
    by_cases hji:j = i
    · subst hji;exact hy.wpOp hi hS ⟨.inr hS,H⟩
    · have h1 := H.2 j (ready_mono hj hji)
      obtain ⟨hjun,oj,hoj,hall⟩:=mem_ready.1 hj
      have hiun:=unlisted (mem_ready.1 hr).1
      have hnot:∀ e∈oj.after,Region.binds md e = true->e.on≠i:=fun e he hb heq=>by
        have h1:=hall e he hb
        rw [heq,hiun] at h1
        cases h1
      have hlj:late j = false:=by
        cases h:late j with
        | false=>rfl
        | true =>
          obtain ⟨e,he,hb,h2 | h2⟩:=hw j oj hoj h
          · exact absurd h2 (hnot e he hb)
          · have h3 := hall e he hb
            rw [hno _ h2] at h3
            cases h3
      have hno':∀ k,late k = true->(l.setIfInBounds j true).getD k false = false:=fun k hk=>by
        rw [getD_set_ne false (fun e=>by subst e;rw [hlj] at hk;cases hk)]
        exact hno k hk
      have h2:=wpOp_putIf (S:=S) hoj (hfree j oj hoj hji hjun hnot) (fun cs b=>hsel i oi cs b hi) (fun cs b=>hsel j oj cs b hoj) hQ hy h1
      have hfree':∀ k ok,ops[k]? = some ok->k≠i->(l.setIfInBounds j true).getD k true = false ->
          (∀ e∈ok.after,Region.binds md e = true->e.on≠i)->oi.apart ops ok = true:=fun k ok hk hki hun hn=>by
        refine hfree k ok hk hki ?_ hn
        by_cases hjk:j = k
        · subst hjk;exact hjun
        · rw [getD_set_ne true hjk] at hun;exact hun
      refine wpOp_mono (fun a' w' h3=>?_) h2
      obtain ⟨hy3,hS3,H3⟩:=h3
      have hS':S w':=by
        rcases hS3 with ⟨k,hk,hk2⟩ | h
        · rw [getD_set_ne false (fun e => by subst e; rw [hlj] at hk; cases hk), getD_set_ne false (fun e => by subst e; rw [hli] at hk; cases hk), hno k hk] at hk2
          cases hk2
        · exact h
      refine ⟨.inr hS',ih (l.setIfInBounds j true) a' w' hfree' (ready_mono hr (Ne.symm hji)) hno' hy3 hS' ?_⟩
      rw [Array.setIfInBounds_comm _ _ hji]
      exact H3
/-- All that has not come up is late: no condition is left. -/
theorem of_any : ∀ (n : Nat) (l : Array Bool) (a : Act) (w : World), (∀ j ∈ List.range ops.size, l.getD j true = false → late j = true) → wpAny P md ops Q n l a w → anyL P md ops Q late S n l a w
  | 0,_,_,_,_,h=>h
  | n + 1, l, _, _, hl, h => ⟨h.1, fun i hi => wpOp_mono (fun a' w' h' => by
      obtain ⟨hun,o,ho,-⟩:=mem_ready.1 hi
      have hlt:i < ops.size:=(Array.getElem?_eq_some_iff.1 ho).1
      have hll:i < l.size:=by
        rcases Nat.lt_or_ge i l.size with h' | h'
        · exact h'
        · simp [Array.getElem?_eq_none h'] at hun
      refine ⟨.inl ⟨i,hl i (List.mem_range.2 hlt) hun,by simp [hll]⟩,of_any n _ a' w' (fun j hj hju=>hl j hj ?_) h'⟩
      by_cases hij:i = j
      · subst hij;exact hun
      · rw [getD_set_ne true hij] at hju;exact hju) (h.2 i hi)⟩
/-- What is late waits for i, or for what is late. -/
def waitsB (md:Region.Mode) (ops:Array Oper) (ls:List Nat) (i:Nat):Bool:=!ls.contains i && (List.range ops.size).all fun j=>!ls.contains j || match ops[j]? with
  | some o=>o.after.any fun e=>Region.binds md e && (e.on == i || ls.contains e.on)
  | none=>true
theorem take {ls:List Nat} {i:Nat} {oi:Oper} {v:Value} {n:Nat} {l:Array Bool} {a:Act} {w:World} (hi:ops[i]? = some oi) (hs:Region.noSelect ops = true) (hf:Region.free md ops l i = true) (hr:(Region.ready md ops l).contains i = true) (hb:waitsB md ops ls i = true) (hn:(ls.all fun k=>!l.getD k false) = true)
    (hQ:∀ c a w,Q (.panic c) (a.put oi.dst v) w->Q (.panic c) a w) (hy:YieldsIf P ops S oi v a) (hS:S w)
    (h:anyL P md ops Q (fun k=>ls.contains k) S n (l.setIfInBounds i true) (a.put oi.dst v) w):anyL P md ops Q (fun k=>ls.contains k) S (n + 1) l a w:=by
  unfold waitsB at hb
  rw [Bool.and_eq_true] at hb
  refine first hi (Region.noSelect_spec hs) hQ (by simpa using hb.1) (fun j oj hj hl=>?_) n l a w (Region.free_spec hi hf) (by simpa using hr) (fun k hk=>?_) hy hS h
  · have h1 := List.all_eq_true.1 hb.2 j (List.mem_range.2 (Array.getElem?_eq_some_iff.1 hj).1)
    rw [show ls.contains j = true from hl,hj] at h1
    simp only [Bool.not_true,Bool.false_or] at h1
    obtain ⟨e,he,h2⟩:=Array.any_eq_true'.1 h1
    simp only [Bool.and_eq_true,Bool.or_eq_true,beq_iff_eq] at h2
    exact ⟨e,he,h2.1,h2.2⟩
  · have h1 := List.all_eq_true.1 hn k (by simpa using hk)
    simpa using h1
theorem tk {ls:List Nat} {i:Nat} {oi:Oper} {v:Value} {n:Nat} {l:Array Bool} {a:Act} {w:World} (hi:ops[i]? = some oi) (hy:YieldsIf P ops S oi v a) (hS:S w)
    (h:anyL P md ops Q (fun k=>ls.contains k) S n (l.setIfInBounds i true) (a.put oi.dst v) w)
    (hb:(Region.noSelect ops && (Region.free md ops l i && ((Region.ready md ops l).contains i && (waitsB md ops ls i && (ls.all fun k=>!l.getD k false))))) = true:=by kernel_rfl) (hQ:∀ c a w,Q (.panic c) (a.put oi.dst v) w->Q (.panic c) a w:=by exact fun _ _ _ h=>h):anyL P md ops Q (fun k=>ls.contains k) S (n + 1) l a w:=by
  simp only [Bool.and_eq_true] at hb
  exact take hi hb.1 hb.2.1 hb.2.2.1 hb.2.2.2.1 hb.2.2.2.2 hQ hy hS h
theorem rest {ls:List Nat} {n:Nat} {l:Array Bool} {a:Act} {w:World} (hb:((List.range ops.size).all fun j=>l.getD j true || ls.contains j) = true) (h:wpAny P md ops Q n l a w):anyL P md ops Q (fun k=>ls.contains k) S n l a w :=
  of_any n l a w (fun j hj hu=>by
    have h1:=List.all_eq_true.1 hb j hj
    rw [hu,Bool.false_or] at h1
    exact h1) h
/-- A late one has come up: no condition is left. -/
theorem of_late:∀ (n:Nat) (l:Array Bool) (a:Act) (w:World),(∃ k,late k = true/\l.getD k false = true)->wpAny P md ops Q n l a w->anyL P md ops Q late S n l a w
  | 0,_,_,_,_,h=>h
  | n + 1,_,_,_,⟨k,hk,hk2⟩,h=>⟨h.1,fun i hi=>wpOp_mono (fun a' w' h'=>⟨.inl ⟨k,hk,getD_set_true hk2⟩,of_late n _ a' w' ⟨k,hk,getD_set_true hk2⟩ h'⟩) (h.2 i hi)⟩
/-- Two may come up: a late one, and one behind which S holds still. -/
theorem two {ls:List Nat} {i j:Nat} {oi oj:Oper} {n:Nat} {l:Array Bool} {a:Act} {w:World} (hr:Region.ready md ops l = [i,j]) (hi:ops[i]? = some oi) (hj:ops[j]? = some oj) (hl:(ls.contains i && (l.setIfInBounds i true).getD i false) = true)
    (h1:∀ K':Act->World->Prop,(∀ a w,wpAny P md ops Q n (l.setIfInBounds i true) a w->K' a w)->if Region.wanted oi (yielded ops a.tmps) = true then Oper.wp P oi a w K' Q else K' (a.put oi.dst undef) w)
    (h2:∀ K':Act->World->Prop,(∀ a w,S w->anyL P md ops Q (fun k=>ls.contains k) S n (l.setIfInBounds j true) a w->K' a w)->if Region.wanted oj (yielded ops a.tmps) = true then Oper.wp P oj a w K' Q else K' (a.put oj.dst undef) w):anyL P md ops Q (fun k=>ls.contains k) S (n + 1) l a w:=by
  rw [Bool.and_eq_true] at hl
  refine ⟨fun h=>(by rw [hr] at h;cases h),fun k hk=>?_⟩
  rw [hr] at hk
  rcases List.mem_cons.1 hk with rfl | hk
  · exact wpOp_mono (fun a' w' h=>⟨.inl ⟨k,hl⟩,of_late n _ a' w' ⟨k,hl⟩ h⟩) (wpOp_step hi h1)
  · rcases List.mem_cons.1 hk with rfl | hk
    · have := h2 (fun a' w' => Sl (fun k => ls.contains k) S (l.setIfInBounds k true) w' ∧ anyL P md ops Q (fun k => ls.contains k) S n (l.setIfInBounds k true) a' w') (fun a' w' hS h => ⟨.inr hS, h⟩)
      unfold wpOp
      simp only [hj]
      split
      · rename_i hw;rw [if_pos hw] at this;exact .inl this
      · rename_i hw;rw [if_neg hw] at this;exact this
    · cases hk
end
end Fst
end Go.Proofs.YtggoccfddnpelaaGreatDoor
namespace Go.Proofs.YtggoccfddnpelaaGreatDoor
open Go.ChangeShapes Go.WideShapes Go.ChangeAt Go.RowKit Go.Deep It
set_option maxRecDepth 100000
namespace Fst
section
variable {P:Program} {ops:Array Oper} {Q:Exit->Act->World->Prop} {md:Region.Mode} {S:World->Prop} {late:Nat->Bool}
theorem keep_step {i:Nat} {oi:Oper} {n:Nat} {l:Array Bool} {a:Act} {w:World} (hi:ops[i]? = some oi)
    (h:∀ K':Act->World->Prop,(∀ a w,S w->anyL P md ops Q late S n (l.setIfInBounds i true) a w->K' a w)->if Region.wanted oi (yielded ops a.tmps) = true then Oper.wp P oi a w K' Q else K' (a.put oi.dst undef) w) :
    wpOp P ops Q i (fun a' w'=>Sl late S (l.setIfInBounds i true) w'/\anyL P md ops Q late S n (l.setIfInBounds i true) a' w') a w:=by
  have:=h (fun a' w'=>Sl late S (l.setIfInBounds i true) w'/\anyL P md ops Q late S n (l.setIfInBounds i true) a' w') (fun a' w' hS h=>⟨.inr hS,h⟩)
  unfold wpOp
  simp only [hi]
  split
  · rename_i hw;rw [if_pos hw] at this;exact .inl this
  · rename_i hw;rw [if_neg hw] at this;exact this
/-- One may come up, behind which S holds still. -/
theorem one {i:Nat} {oi:Oper} {n:Nat} {l:Array Bool} {a:Act} {w:World} (hr:Region.ready md ops l = [i]) (hi:ops[i]? = some oi)
    (h1:∀ K':Act->World->Prop,(∀ a w,S w->anyL P md ops Q late S n (l.setIfInBounds i true) a w->K' a w)->if Region.wanted oi (yielded ops a.tmps) = true then Oper.wp P oi a w K' Q else K' (a.put oi.dst undef) w):anyL P md ops Q late S (n + 1) l a w:=by
  refine ⟨fun h=>(by rw [hr] at h;cases h),fun k hk=>?_⟩
  rw [hr] at hk
  rcases List.mem_cons.1 hk with rfl | hk
  · exact keep_step hi h1
  · cases hk
end
end Fst
set_option linter.unusedSimpArgs false in
set_option maxHeartbeats 2000000 in
theorem shhandle_any (no gen:Int) (w:World) (h1:no<=9223372036854775807) (h2:gen<=9223372036854775807) :
    Calls Tryz.prog 16 #[.agg #[.int .i64 no,.int .i64 gen]] w fun e w'=>e = .returned (.string (Ks.Ak.hbytes no gen))/\Below w.heap.size w w':=by
  obtain ⟨W,hW⟩:∃ W,W = w.alloc (BH no gen):=⟨_,rfl⟩
  have HB0:Hid (Below w.heap.size w W):=by show Below w.heap.size w W;rw [hW];exact (Below.refl _ w).alloc (Nat.le_refl _) _
  have HA0:Hid (W.heap[w.heap.size]? = some (BH no gen)):=by show W.heap[w.heap.size]? = _;rw [hW];exact heap_alloc_new _ _
  have H1:Hid (no<=9223372036854775807):=h1
  have H2:Hid (gen<=9223372036854775807):=h2
  have HL:Hid (w.heap.size < W.heap.size):=(Array.getElem?_eq_some_iff.1 HA0.out).1
  clear h1 h2
  go_enter Tryz.func16,Tryz.ntmps16
  go_wp2_with fail
  rw [← hW]
  clear hW
  refine wp_region_any (by kernel_rfl) ?_
  change wpAny _ _ _ _ _ _ _ (World.drew _)
  refine wpAny_take (i:=0) (v:=?v0) rfl (by kernel_rfl) (by kernel_rfl) (by kernel_rfl) (fun _ _ _ h=>h) (Or.inl ⟨by rfl,?h0⟩) ?r0
  case h0=>(intro w;go_simp;try with_reducible rfl)
  try simp only [Act.put,List.setIfInBounds_toArray,List.set_cons_zero,List.set_cons_succ]
  refine wpAny_take (i:=3) (v:=?v3) rfl (by kernel_rfl) (by kernel_rfl) (by kernel_rfl) (fun _ _ _ h=>h) (Or.inl ⟨by rfl,?h3⟩) ?r3
  case h3=>(intro w;go_simp;try with_reducible rfl)
  try simp only [Act.put,List.setIfInBounds_toArray,List.set_cons_zero,List.set_cons_succ]
  have HS:(fun V:World=>V.cell? ⟨w.heap.size,0,none⟩ = some (.int .i64 no)/\V.cell? ⟨w.heap.size,1,none⟩ = some (.int .i64 gen)) W.drew:=⟨cell_at HA0.out 0,cell_at HA0.out 1⟩
  refine Fst.any_of (late:=fun k=>[7].contains k) (S:=(fun V:World=>V.cell? ⟨w.heap.size,0,none⟩ = some (.int .i64 no)/\V.cell? ⟨w.heap.size,1,none⟩ = some (.int .i64 gen))) _ _ _ _ ?_
  refine Fst.take (ls:=[7]) (i:=1) (v:=?v1) rfl (by kernel_rfl) (by kernel_rfl) (by kernel_rfl) (by kernel_rfl) (by kernel_rfl) (fun _ _ _ h=>h) (Or.inl ⟨by rfl,?h1⟩) HS ?r1
  case h1=>(rintro V ⟨s0,s1⟩;go_simp;try with_reducible rfl)
  try simp only [Act.put,List.setIfInBounds_toArray,List.set_cons_zero,List.set_cons_succ]
  refine Fst.take (ls:=[7]) (i:=4) (v:=?v4) rfl (by kernel_rfl) (by kernel_rfl) (by kernel_rfl) (by kernel_rfl) (by kernel_rfl) (fun _ _ _ h=>h) (Or.inl ⟨by rfl,?h4⟩) HS ?r4
  case h4=>(rintro V ⟨s0,s1⟩;go_simp;try with_reducible rfl)
  try simp only [Act.put,List.setIfInBounds_toArray,List.set_cons_zero,List.set_cons_succ]
  clear HS
  refine Fst.one (late:=fun k=>[7].contains k) (i:=2) (by kernel_rfl) rfl (fun K hK=>?_)
  go_simp
  refine (shnum_any no 1 W.drew H1.out).mono ?_
  rintro e w1 ⟨rfl,hb⟩
  have HB1:Hid (Below W.heap.size W w1):=undrew hb
  have HA1:Hid (w1.heap[w.heap.size]? = some (BH no gen)):=(HB1.out.block _ HL.out).trans HA0.out
  clear hb
  (try go_wp2_with fail)
  refine hK _ _ ⟨cell_at HA1.out 0,cell_at HA1.out 1⟩ ?_
  clear hK K
  try simp only [Act.put,List.setIfInBounds_toArray,List.set_cons_zero,List.set_cons_succ]
  refine Fst.one (late:=fun k=>[7].contains k) (i:=5) (by kernel_rfl) rfl (fun K hK=>?_)
  go_simp
  refine (shnum_any gen 6 w1 H2.out).mono ?_
  rintro e w2 ⟨rfl,hb⟩
  have HB2:Hid (Below W.heap.size W w2):=HB1.out.trans (hb.mono HB1.out.size)
  have HA2:Hid (w2.heap[w.heap.size]? = some (BH no gen)):=(HB2.out.block _ HL.out).trans HA0.out
  have HBZ:Hid (Below w.heap.size w w2):=HB0.out.trans (HB2.out.mono HB0.out.size)
  clear hb HB1 HA1
  have hsz:¬ (9223372036854775807 < (Sh.nb no 1).size + (Sh.nb gen 6).size):=by
    have h:=Ks.Ak.hbytes_le no gen
    unfold Ks.Ak.hbytes at h
    rw [ByteArray.size_append] at h
    show ¬ (9223372036854775807 < (Ks.Pl.numOut no 1).size + (Ks.Pl.numOut gen 6).size)
    omega
  (try go_wp2_with fail)
  have HS:(fun V:World=>V.cell? ⟨w.heap.size,0,none⟩ = some (.int .i64 no)/\V.cell? ⟨w.heap.size,1,none⟩ = some (.int .i64 gen)) w2:=⟨cell_at HA2.out 0,cell_at HA2.out 1⟩
  refine hK _ _ HS ?_
  clear hK K
  try simp only [Act.put,List.setIfInBounds_toArray,List.set_cons_zero,List.set_cons_succ]
  refine Fst.take (ls:=[7]) (i:=6) (v:=?v6) rfl (by kernel_rfl) (by kernel_rfl) (by kernel_rfl) (by kernel_rfl) (by kernel_rfl) (fun _ _ _ h=>h) (Or.inl ⟨by rfl,?h6⟩) HS ?r6
  case h6=>(rintro V ⟨s0,s1⟩;go_simp;try with_reducible rfl)
  try simp only [Act.put,List.setIfInBounds_toArray,List.set_cons_zero,List.set_cons_succ]
  refine Fst.rest (by kernel_rfl) ?_
  clear HS
  refine wpAny_ready (rs:=[7]) (by kernel_rfl) (by simp) ?_
  refine AllReady.cons rfl (fun K hK=>?_) AllReady.nil
  go_simp
  (try go_wp2_with fail)
  first | (refine hK _ _ ?_;clear hK K) | skip
  try simp only [Act.put,List.setIfInBounds_toArray,List.set_cons_zero,List.set_cons_succ]
  refine wpAny_done (by kernel_rfl) ?_ _
  go_wp2
  go_ret
  exact ⟨rfl,HBZ.out⟩
abbrev BT (s:ByteArray):Obj:=.cells #[.string s] 100
/-- The box b has the text t now, all else that was there is as it was. -/
structure Tx (b:Nat) (t:ByteArray) (w w':World):Prop where
  box:w'.heap[b]? = some (BT t)
  gr:w.grownBy w' (some b)
theorem tx_set {w:World} {b:Nat} {s:ByteArray} (h:w.heap[b]? = some (BT s)) (t:ByteArray):Tx b t w (w.setCell ⟨b,0,none⟩ (.string t)):=⟨set_at h 0 _,grownBy_setCell' w b _⟩
theorem Tx.trans {b:Nat} {s t:ByteArray} {w w1 w2:World} (h:Tx b s w w1) (k:Tx b t w1 w2):Tx b t w w2:=⟨k.box,grown_trans h.gr k.gr⟩
theorem Tx.below {b n:Nat} {t:ByteArray} {w w' w0:World} (h:Tx b t w w') (hb:Below n w0 w) (hn:n<=b) (hw:n<=w.heap.size):Below n w0 w':=hb.grown h.gr hw (fun k hk=>by cases hk;exact hn)
theorem Tx.at {b k:Nat} {t:ByteArray} {w w':World} {o:Obj} (h:Tx b t w w') (hk:w.heap[k]? = some o) (hne:k≠b):w'.heap[k]? = some o:=(h.gr.block k (Array.getElem?_eq_some_iff.1 hk).1 (fun e=>hne (by cases e;rfl))).trans hk
set_option maxHeartbeats 1000000 in
theorem take_any (b n:Nat) (s:ByteArray) (w:World) (h:w.heap[b]? = some (BT s)) (hs:s.size<=maxLen) :
    Calls Tryz.prog 78 #[.pointer (some ⟨b,0,none⟩),.int .i64 n] w fun e w'=>e = .returned (.string (Sh.tk n s))/\w' = w.setCell ⟨b,0,none⟩ (.string (Sh.dr n s)):=by
  have h63:=hs
  unfold maxLen at h63
  have c0:w.cell? ⟨b,0,none⟩ = some (.string s):=cell_at h 0
  have f0:=fr_at h 0
  obtain ⟨m,hm⟩:∃ m:Nat,min n s.size = m:=⟨_,rfl⟩
  have HM:Hid (min (n:Int) (s.size:Int) = (m:Int)/\min n s.size = m):=⟨by omega,hm⟩
  have hmm:min (n:Int) (s.size:Int) = (m:Int):=by omega
  have hle:(m:Int)<=(s.size:Int):=by omega
  have hle':m<=s.size:=by omega
  clear hm
  go_enter Tryz.func78,Tryz.ntmps78
  go_wp2
  go_ret
  exact ⟨by unfold Sh.tk;rw [HM.out.2];rfl,by unfold Sh.dr;rw [HM.out.2]⟩
theorem num_any' (b n:Nat) (s:ByteArray) (w:World) (h:w.heap[b]? = some (BT s)) (hs:s.size<=maxLen) :
    Calls Tryz.prog 46 #[.pointer (some ⟨b,0,none⟩),.int .i64 n] w fun e w'=>e = .returned (.int .i64 (Sh.nm n s))/\Tx b (Sh.dr n s) w w':=by
  have HT:Hid (Tx b (Sh.dr n s) w (w.setCell ⟨b,0,none⟩ (.string (Sh.dr n s)))):=tx_set h _
  have HS:Hid ((Sh.tk n s).size<=maxLen):=Nat.le_trans (Sh.tk_size n s) hs
  have HH:Hid (w.heap[b]? = some (BT s)/\s.size<=maxLen):=⟨h,hs⟩
  clear h hs
  go_enter Tryz.func46,Tryz.ntmps46
  go_wp2_with fail
  refine (take_any b n s _ HH.out.1 HH.out.2).mono ?_
  rintro e w1 ⟨rfl,rfl⟩
  go_wp2_with fail
  refine (Ks.number_any _ _ HS.out).mono ?_
  rintro e w2 ⟨rfl,rfl⟩
  go_wp2
  go_ret
  exact ⟨rfl,HT.out⟩
theorem rest_any (b:Nat) (s:ByteArray) (w:World) (h:w.heap[b]? = some (BT s)) (hs:s.size<=maxLen) :
    Calls Tryz.prog 79 #[.pointer (some ⟨b,0,none⟩)] w fun e w'=>e = .returned (.string s)/\Tx b (Sh.dr s.size s) w w':=by
  have HT:Hid (Tx b (Sh.dr s.size s) w (w.setCell ⟨b,0,none⟩ (.string (Sh.dr s.size s)))):=tx_set h _
  have HH:Hid (w.heap[b]? = some (BT s)/\s.size<=maxLen):=⟨h,hs⟩
  have HE:Hid (Sh.tk s.size s = s):=Sh.cutE s rfl
  have c0:w.cell? ⟨b,0,none⟩ = some (.string s):=cell_at h 0
  clear h hs
  go_enter Tryz.func79,Tryz.ntmps79
  go_wp2_with fail
  refine (take_any b s.size s _ HH.out.1 HH.out.2).mono ?_
  rintro e w1 ⟨rfl,rfl⟩
  rw [HE.out]
  go_wp2
  go_ret
  exact ⟨rfl,HT.out⟩
/-- The same, with a block of the call's own beside the box. -/
structure Tr (b A:Nat) (s:ByteArray) (o:Obj) (w w':World):Prop where
  tx:Tx b s w w'
  at_:w'.heap[A]? = some o
  ne:A≠b
  new:w.heap.size<=A
theorem tr_new {w:World} {b:Nat} {s:ByteArray} (h:w.heap[b]? = some (BT s)) (o:Obj):Tr b w.heap.size s o w (w.alloc o) :=
  ⟨⟨(Below.heap_alloc w o b (Array.getElem?_eq_some_iff.1 h).1).trans h,World.grownBy_alloc w o (some b)⟩,heap_alloc_new w o,fun e=>by have:=(Array.getElem?_eq_some_iff.1 h).1;omega,Nat.le_refl _⟩
theorem Tr.call {b A:Nat} {s t:ByteArray} {o:Obj} {w w1 w2:World} (h:Tr b A s o w w1) (k:Tx b t w1 w2):Tr b A t o w w2:=⟨h.tx.trans k,k.at h.at_ h.ne,h.ne,h.new⟩
theorem Tr.set {b A:Nat} {s:ByteArray} {cs:Array Value} {T:TypeId} {w w1:World} (h:Tr b A s (.cells cs T) w w1) (k:Nat) (u:Value):Tr b A s (.cells (cs.setIfInBounds k u) T) w (w1.setCell ⟨A,k,none⟩ u):=by
  have hl:=(Array.getElem?_eq_some_iff.1 h.at_).1
  have off:∀ j,j≠A->(w1.setCell ⟨A,k,none⟩ u).heap[j]? = w1.heap[j]?:=fun j hj=>Below.heap_setCell _ _ _ _ hj
  refine ⟨⟨(off b (Ne.symm h.ne)).trans h.tx.box,⟨h.tx.gr.os,h.tx.gr.tape,h.tx.gr.output,by simpa [World.setCell] using h.tx.gr.size,fun j hj hb=>(off j (by have:=h.new;omega)).trans (h.tx.gr.block j hj hb)⟩⟩,set_at h.at_ k u,h.ne,h.new⟩
set_option maxHeartbeats 1000000 in
theorem handle_any (b:Nat) (s:ByteArray) (w:World) (h:w.heap[b]? = some (BT s)) (hs:s.size<=maxLen) :
    Calls Tryz.prog 83 #[.pointer (some ⟨b,0,none⟩)] w fun e w'=>e = .returned (.agg #[.int .i64 (Sh.rdH s).1,.int .i64 (Sh.rdH s).2])/\Tx b (Sh.dr 6 (Sh.dr 1 s)) w w':=by
  obtain ⟨A,hA⟩:∃ n,n = w.heap.size:=⟨_,rfl⟩
  obtain ⟨W,hW⟩:∃ W,W = w.alloc (.cells #[.int .i64 0,.int .i64 0] 57):=⟨_,rfl⟩
  have HT0:Hid (Tr b A s (.cells #[.int .i64 0,.int .i64 0] 57) w W):=by show Tr _ _ _ _ _ _;rw [hW,hA];exact tr_new h _
  have HZ0:Hid (s.size<=maxLen):=hs
  have HW:Hid (W = w.alloc (.cells #[.int .i64 0,.int .i64 0] 57)/\A = w.heap.size):=⟨hW,hA⟩
  clear h hs hW hA
  go_enter Tryz.func83,Tryz.ntmps83
  go_wp2_with fail
  rw [← HW.out.1,← HW.out.2]
  clear HW
  refine (num_any' b 1 s _ HT0.out.tx.box HZ0.out).mono ?_
  rintro e w1 ⟨rfl,hx⟩
  have HX1:Hid (Tr b A (Sh.dr 1 s) (.cells #[.int .i64 0,.int .i64 0] 57) w w1):=HT0.out.call hx
  have c0:=cell_at HX1.out.at_ 0
  have c1:=cell_at HX1.out.at_ 1
  have f0:=fr_at HX1.out.at_
  simp at c0 c1
  clear hx HT0
  have HT1:Hid (Tr b A (Sh.dr 1 s) (.cells #[.int .i64 (Sh.nm 1 s),.int .i64 0] 57) w (w1.setCell ⟨A,0,none⟩ (.int .i64 (Sh.nm 1 s)))):=(HX1.out.set 0 (.int .i64 (Sh.nm 1 s)))
  have HZ1:Hid ((Sh.dr 1 s).size<=maxLen):=Nat.le_trans (Sh.dr_size _ _) HZ0.out
  go_wp2_with fail
  clear c0 c1 f0 HX1 HZ0
  refine (num_any' b 6 (Sh.dr 1 s) _ HT1.out.tx.box HZ1.out).mono ?_
  rintro e w2 ⟨rfl,hx⟩
  have HX2:Hid (Tr b A (Sh.dr 6 (Sh.dr 1 s)) (.cells #[.int .i64 (Sh.nm 1 s),.int .i64 0] 57) w w2):=HT1.out.call hx
  have c0:=cell_at HX2.out.at_ 0
  have c1:=cell_at HX2.out.at_ 1
  have f0:=fr_at HX2.out.at_
  simp at c0 c1
  clear hx HT1
  have HT2:Hid (Tr b A (Sh.dr 6 (Sh.dr 1 s)) (.cells #[.int .i64 (Sh.nm 1 s),.int .i64 (Sh.nm 6 (Sh.dr 1 s))] 57) w (w2.setCell ⟨A,1,none⟩ (.int .i64 (Sh.nm 6 (Sh.dr 1 s))))):=(HX2.out.set 1 (.int .i64 (Sh.nm 6 (Sh.dr 1 s))))
  have HF:Hid (Tr b A (Sh.dr 6 (Sh.dr 1 s)) (.cells #[.int .i64 (Sh.nm 1 s),.int .i64 (Sh.nm 6 (Sh.dr 1 s))] 57) w (((w2.setCell ⟨A,1,none⟩ (.int .i64 (Sh.nm 6 (Sh.dr 1 s)))).setCell ⟨A,0,none⟩ (.int .i64 (Sh.nm 1 s))).setCell ⟨A,1,none⟩ (.int .i64 (Sh.nm 6 (Sh.dr 1 s))))):=((HT2.out.set 0 (.int .i64 (Sh.nm 1 s))).set 1 (.int .i64 (Sh.nm 6 (Sh.dr 1 s))))
  go_wp2
  generalize (((w2.setCell ⟨A,1,none⟩ (.int .i64 (Sh.nm 6 (Sh.dr 1 s)))).setCell ⟨A,0,none⟩ (.int .i64 (Sh.nm 1 s))).setCell ⟨A,1,none⟩ (.int .i64 (Sh.nm 6 (Sh.dr 1 s)))) = WF at HF ⊢
  have d0:=cell_at HF.out.at_ 0
  have d1:=cell_at HF.out.at_ 1
  simp at d0 d1
  clear c0 HT2 HX2 f0
  refine bodyPost_ret (v:=.agg #[.int .i64 (Sh.rdH s).1,.int .i64 (Sh.rdH s).2]) ?_ rfl ⟨rfl,?_⟩
  · rw [results_cell1 rfl]
    go_simp
    simp only [Sh.rdH,and_self]
  · exact HF.out.tx
set_option maxHeartbeats 1000000 in
theorem vopen_any (b:Nat) (s:ByteArray) (w:World) (h:w.heap[b]? = some (BT s)) (hs:s.size<=maxLen) :
    Calls Tryz.prog 48 #[.pointer (some ⟨b,0,none⟩)] w fun e w'=>e = .returned (Os.VO (Sh.rdO s))/\∃ t,Tx b t w w':=by
  obtain ⟨A,hA⟩:∃ n,n = w.heap.size:=⟨_,rfl⟩
  obtain ⟨W,hW⟩:∃ W,W = w.alloc (.cells #[.int .i64 0,.int .i64 0,.int .i64 0,.int .i64 0] 59):=⟨_,rfl⟩
  have HT0:Hid (Tr b A s (.cells #[.int .i64 0,.int .i64 0,.int .i64 0,.int .i64 0] 59) w W):=by show Tr _ _ _ _ _ _;rw [hW,hA];exact tr_new h _
  have HZ0:Hid (s.size<=maxLen):=hs
  have HW:Hid (W = w.alloc (.cells #[.int .i64 0,.int .i64 0,.int .i64 0,.int .i64 0] 59)/\A = w.heap.size):=⟨hW,hA⟩
  clear h hs hW hA
  go_enter Tryz.func48,Tryz.ntmps48
  go_wp2_with fail
  rw [← HW.out.1,← HW.out.2]
  clear HW
  refine (num_any' b 1 s _ HT0.out.tx.box HZ0.out).mono ?_
  rintro e w1 ⟨rfl,hx⟩
  have HX1:Hid (Tr b A (Sh.dr 1 s) (.cells #[.int .i64 0,.int .i64 0,.int .i64 0,.int .i64 0] 59) w w1):=HT0.out.call hx
  have c0:=cell_at HX1.out.at_ 0
  have c1:=cell_at HX1.out.at_ 1
  have c2:=cell_at HX1.out.at_ 2
  have c3:=cell_at HX1.out.at_ 3
  have f0:=fr_at HX1.out.at_
  simp at c0 c1 c2 c3
  clear hx HT0
  have HT1:Hid (Tr b A (Sh.dr 1 s) (.cells #[.int .i64 (Sh.nm 1 s),.int .i64 0,.int .i64 0,.int .i64 0] 59) w (w1.setCell ⟨A,0,none⟩ (.int .i64 (Sh.nm 1 s)))):=(HX1.out.set 0 (.int .i64 (Sh.nm 1 s)))
  have HZ1:Hid ((Sh.dr 1 s).size<=maxLen):=Nat.le_trans (Sh.dr_size _ _) HZ0.out
  go_wp2_with fail
  clear c0 c1 c2 c3 f0 HX1 HZ0
  refine (num_any' b 6 (Sh.dr 1 s) _ HT1.out.tx.box HZ1.out).mono ?_
  rintro e w2 ⟨rfl,hx⟩
  have HX2:Hid (Tr b A (Sh.dr 6 (Sh.dr 1 s)) (.cells #[.int .i64 (Sh.nm 1 s),.int .i64 0,.int .i64 0,.int .i64 0] 59) w w2):=HT1.out.call hx
  have c0:=cell_at HX2.out.at_ 0
  have c1:=cell_at HX2.out.at_ 1
  have c2:=cell_at HX2.out.at_ 2
  have c3:=cell_at HX2.out.at_ 3
  have f0:=fr_at HX2.out.at_
  simp at c0 c1 c2 c3
  clear hx HT1
  have HT2:Hid (Tr b A (Sh.dr 6 (Sh.dr 1 s)) (.cells #[.int .i64 (Sh.nm 1 s),.int .i64 (Sh.nm 6 (Sh.dr 1 s)),.int .i64 0,.int .i64 0] 59) w (w2.setCell ⟨A,1,none⟩ (.int .i64 (Sh.nm 6 (Sh.dr 1 s))))):=(HX2.out.set 1 (.int .i64 (Sh.nm 6 (Sh.dr 1 s))))
  have HZ2:Hid ((Sh.dr 6 (Sh.dr 1 s)).size<=maxLen):=Nat.le_trans (Sh.dr_size _ _) HZ1.out
  go_wp2_with fail
  clear c0 c1 c2 c3 f0 HX2 HZ1
  refine (handle_any b (Sh.dr 6 (Sh.dr 1 s)) _ HT2.out.tx.box HZ2.out).mono ?_
  rintro e w3 ⟨rfl,hx⟩
  have HX3:Hid (Tr b A (Sh.dr 6 (Sh.dr 1 (Sh.dr 6 (Sh.dr 1 s)))) (.cells #[.int .i64 (Sh.nm 1 s),.int .i64 (Sh.nm 6 (Sh.dr 1 s)),.int .i64 0,.int .i64 0] 59) w w3):=HT2.out.call hx
  have c0:=cell_at HX3.out.at_ 0
  have c1:=cell_at HX3.out.at_ 1
  have c2:=cell_at HX3.out.at_ 2
  have c3:=cell_at HX3.out.at_ 3
  have f0:=fr_at HX3.out.at_
  simp at c0 c1 c2 c3
  clear hx HT2
  have HT3:Hid (Tr b A (Sh.dr 6 (Sh.dr 1 (Sh.dr 6 (Sh.dr 1 s)))) (.cells #[.int .i64 (Sh.nm 1 s),.int .i64 (Sh.nm 6 (Sh.dr 1 s)),.int .i64 (Sh.rdH (Sh.dr 6 (Sh.dr 1 s))).1,.int .i64 (Sh.rdH (Sh.dr 6 (Sh.dr 1 s))).2] 59) w ((w3.setCell ⟨A,2,none⟩ (.int .i64 (Sh.rdH (Sh.dr 6 (Sh.dr 1 s))).1)).setCell ⟨A,3,none⟩ (.int .i64 (Sh.rdH (Sh.dr 6 (Sh.dr 1 s))).2))):=((HX3.out.set 2 (.int .i64 (Sh.rdH (Sh.dr 6 (Sh.dr 1 s))).1)).set 3 (.int .i64 (Sh.rdH (Sh.dr 6 (Sh.dr 1 s))).2))
  have HF:Hid (Tr b A (Sh.dr 6 (Sh.dr 1 (Sh.dr 6 (Sh.dr 1 s)))) (.cells #[.int .i64 (Sh.nm 1 s),.int .i64 (Sh.nm 6 (Sh.dr 1 s)),.int .i64 (Sh.rdH (Sh.dr 6 (Sh.dr 1 s))).1,.int .i64 (Sh.rdH (Sh.dr 6 (Sh.dr 1 s))).2] 59) w ((((((w3.setCell ⟨A,2,none⟩ (.int .i64 (Sh.rdH (Sh.dr 6 (Sh.dr 1 s))).1)).setCell ⟨A,3,none⟩ (.int .i64 (Sh.rdH (Sh.dr 6 (Sh.dr 1 s))).2)).setCell ⟨A,0,none⟩ (.int .i64 (Sh.nm 1 s))).setCell ⟨A,1,none⟩ (.int .i64 (Sh.nm 6 (Sh.dr 1 s)))).setCell ⟨A,2,none⟩ (.int .i64 (Sh.rdH (Sh.dr 6 (Sh.dr 1 s))).1)).setCell ⟨A,3,none⟩ (.int .i64 (Sh.rdH (Sh.dr 6 (Sh.dr 1 s))).2))):=((((HT3.out.set 0 (.int .i64 (Sh.nm 1 s))).set 1 (.int .i64 (Sh.nm 6 (Sh.dr 1 s)))).set 2 (.int .i64 (Sh.rdH (Sh.dr 6 (Sh.dr 1 s))).1)).set 3 (.int .i64 (Sh.rdH (Sh.dr 6 (Sh.dr 1 s))).2))
  go_wp2
  generalize ((((((w3.setCell ⟨A,2,none⟩ (.int .i64 (Sh.rdH (Sh.dr 6 (Sh.dr 1 s))).1)).setCell ⟨A,3,none⟩ (.int .i64 (Sh.rdH (Sh.dr 6 (Sh.dr 1 s))).2)).setCell ⟨A,0,none⟩ (.int .i64 (Sh.nm 1 s))).setCell ⟨A,1,none⟩ (.int .i64 (Sh.nm 6 (Sh.dr 1 s)))).setCell ⟨A,2,none⟩ (.int .i64 (Sh.rdH (Sh.dr 6 (Sh.dr 1 s))).1)).setCell ⟨A,3,none⟩ (.int .i64 (Sh.rdH (Sh.dr 6 (Sh.dr 1 s))).2)) = WF at HF ⊢
  have d0:=cell_at HF.out.at_ 0
  have d1:=cell_at HF.out.at_ 1
  have d2:=cell_at HF.out.at_ 2
  have d3:=cell_at HF.out.at_ 3
  simp at d0 d1 d2 d3
  clear c0 HT3 HX3 f0
  refine bodyPost_ret (v:=Os.VO (Sh.rdO s)) ?_ rfl ⟨rfl,(Sh.dr 6 (Sh.dr 1 (Sh.dr 6 (Sh.dr 1 s)))),?_⟩
  · rw [results_cell1 rfl]
    go_simp
    simp only [Sh.rdO,and_self]
  · exact HF.out.tx
set_option maxHeartbeats 1000000 in
theorem vseat_any (b:Nat) (s:ByteArray) (w:World) (h:w.heap[b]? = some (BT s)) (hs:s.size<=maxLen) :
    Calls Tryz.prog 49 #[.pointer (some ⟨b,0,none⟩)] w fun e w'=>e = .returned (.agg #[.int .i64 (Sh.rdZ s).1,.int .i64 (Sh.rdZ s).2.1,.string (Sh.rdZ s).2.2])/\∃ t,Tx b t w w':=by
  obtain ⟨A,hA⟩:∃ n,n = w.heap.size:=⟨_,rfl⟩
  obtain ⟨W,hW⟩:∃ W,W = w.alloc (.cells #[.int .i64 0,.int .i64 0,.string ⟨#[]⟩] 62):=⟨_,rfl⟩
  have HT0:Hid (Tr b A s (.cells #[.int .i64 0,.int .i64 0,.string ⟨#[]⟩] 62) w W):=by show Tr _ _ _ _ _ _;rw [hW,hA];exact tr_new h _
  have HZ0:Hid (s.size<=maxLen):=hs
  have HW:Hid (W = w.alloc (.cells #[.int .i64 0,.int .i64 0,.string ⟨#[]⟩] 62)/\A = w.heap.size):=⟨hW,hA⟩
  clear h hs hW hA
  go_enter Tryz.func49,Tryz.ntmps49
  go_wp2_with fail
  rw [← HW.out.1,← HW.out.2]
  clear HW
  refine (num_any' b 6 s _ HT0.out.tx.box HZ0.out).mono ?_
  rintro e w1 ⟨rfl,hx⟩
  have HX1:Hid (Tr b A (Sh.dr 6 s) (.cells #[.int .i64 0,.int .i64 0,.string ⟨#[]⟩] 62) w w1):=HT0.out.call hx
  have c0:=cell_at HX1.out.at_ 0
  have c1:=cell_at HX1.out.at_ 1
  have c2:=cell_at HX1.out.at_ 2
  have f0:=fr_at HX1.out.at_
  simp at c0 c1 c2
  clear hx HT0
  have HT1:Hid (Tr b A (Sh.dr 6 s) (.cells #[.int .i64 (Sh.nm 6 s),.int .i64 0,.string ⟨#[]⟩] 62) w (w1.setCell ⟨A,0,none⟩ (.int .i64 (Sh.nm 6 s)))):=(HX1.out.set 0 (.int .i64 (Sh.nm 6 s)))
  have HZ1:Hid ((Sh.dr 6 s).size<=maxLen):=Nat.le_trans (Sh.dr_size _ _) HZ0.out
  go_wp2_with fail
  clear c0 c1 c2 f0 HX1 HZ0
  refine (num_any' b 6 (Sh.dr 6 s) _ HT1.out.tx.box HZ1.out).mono ?_
  rintro e w2 ⟨rfl,hx⟩
  have HX2:Hid (Tr b A (Sh.dr 6 (Sh.dr 6 s)) (.cells #[.int .i64 (Sh.nm 6 s),.int .i64 0,.string ⟨#[]⟩] 62) w w2):=HT1.out.call hx
  have c0:=cell_at HX2.out.at_ 0
  have c1:=cell_at HX2.out.at_ 1
  have c2:=cell_at HX2.out.at_ 2
  have f0:=fr_at HX2.out.at_
  simp at c0 c1 c2
  clear hx HT1
  have HT2:Hid (Tr b A (Sh.dr 6 (Sh.dr 6 s)) (.cells #[.int .i64 (Sh.nm 6 s),.int .i64 (Sh.nm 6 (Sh.dr 6 s)),.string ⟨#[]⟩] 62) w (w2.setCell ⟨A,1,none⟩ (.int .i64 (Sh.nm 6 (Sh.dr 6 s))))):=(HX2.out.set 1 (.int .i64 (Sh.nm 6 (Sh.dr 6 s))))
  have HZ2:Hid ((Sh.dr 6 (Sh.dr 6 s)).size<=maxLen):=Nat.le_trans (Sh.dr_size _ _) HZ1.out
  go_wp2_with fail
  clear c0 c1 c2 f0 HX2 HZ1
  refine (rest_any b (Sh.dr 6 (Sh.dr 6 s)) _ HT2.out.tx.box HZ2.out).mono ?_
  rintro e w3 ⟨rfl,hx⟩
  have HX3:Hid (Tr b A (Sh.dr (Sh.dr 6 (Sh.dr 6 s)).size (Sh.dr 6 (Sh.dr 6 s))) (.cells #[.int .i64 (Sh.nm 6 s),.int .i64 (Sh.nm 6 (Sh.dr 6 s)),.string ⟨#[]⟩] 62) w w3):=HT2.out.call hx
  have c0:=cell_at HX3.out.at_ 0
  have c1:=cell_at HX3.out.at_ 1
  have c2:=cell_at HX3.out.at_ 2
  have f0:=fr_at HX3.out.at_
  simp at c0 c1 c2
  clear hx HT2
  have HT3:Hid (Tr b A (Sh.dr (Sh.dr 6 (Sh.dr 6 s)).size (Sh.dr 6 (Sh.dr 6 s))) (.cells #[.int .i64 (Sh.nm 6 s),.int .i64 (Sh.nm 6 (Sh.dr 6 s)),.string (Sh.dr 6 (Sh.dr 6 s))] 62) w (w3.setCell ⟨A,2,none⟩ (.string (Sh.dr 6 (Sh.dr 6 s))))):=(HX3.out.set 2 (.string (Sh.dr 6 (Sh.dr 6 s))))
  have HF:Hid (Tr b A (Sh.dr (Sh.dr 6 (Sh.dr 6 s)).size (Sh.dr 6 (Sh.dr 6 s))) (.cells #[.int .i64 (Sh.nm 6 s),.int .i64 (Sh.nm 6 (Sh.dr 6 s)),.string (Sh.dr 6 (Sh.dr 6 s))] 62) w ((((w3.setCell ⟨A,2,none⟩ (.string (Sh.dr 6 (Sh.dr 6 s)))).setCell ⟨A,0,none⟩ (.int .i64 (Sh.nm 6 s))).setCell ⟨A,1,none⟩ (.int .i64 (Sh.nm 6 (Sh.dr 6 s)))).setCell ⟨A,2,none⟩ (.string (Sh.dr 6 (Sh.dr 6 s))))):=(((HT3.out.set 0 (.int .i64 (Sh.nm 6 s))).set 1 (.int .i64 (Sh.nm 6 (Sh.dr 6 s)))).set 2 (.string (Sh.dr 6 (Sh.dr 6 s))))
  go_wp2
  generalize ((((w3.setCell ⟨A,2,none⟩ (.string (Sh.dr 6 (Sh.dr 6 s)))).setCell ⟨A,0,none⟩ (.int .i64 (Sh.nm 6 s))).setCell ⟨A,1,none⟩ (.int .i64 (Sh.nm 6 (Sh.dr 6 s)))).setCell ⟨A,2,none⟩ (.string (Sh.dr 6 (Sh.dr 6 s)))) = WF at HF ⊢
  have d0:=cell_at HF.out.at_ 0
  have d1:=cell_at HF.out.at_ 1
  have d2:=cell_at HF.out.at_ 2
  simp at d0 d1 d2
  clear c0 HT3 HX3 f0
  refine bodyPost_ret (v:=.agg #[.int .i64 (Sh.rdZ s).1,.int .i64 (Sh.rdZ s).2.1,.string (Sh.rdZ s).2.2]) ?_ rfl ⟨rfl,(Sh.dr (Sh.dr 6 (Sh.dr 6 s)).size (Sh.dr 6 (Sh.dr 6 s))),?_⟩
  · rw [results_cell1 rfl]
    go_simp
    simp only [Sh.rdZ,and_self]
  · exact HF.out.tx
set_option maxHeartbeats 1000000 in
theorem vrun_any (b:Nat) (s:ByteArray) (w:World) (h:w.heap[b]? = some (BT s)) (hs:s.size<=maxLen) :
    Calls Tryz.prog 81 #[.pointer (some ⟨b,0,none⟩)] w fun e w'=>e = .returned (.agg #[.int .i64 (Sh.rdR s).1,.string (Sh.rdR s).2])/\∃ t,Tx b t w w':=by
  obtain ⟨A,hA⟩:∃ n,n = w.heap.size:=⟨_,rfl⟩
  obtain ⟨W,hW⟩:∃ W,W = w.alloc (.cells #[.int .i64 0,.string ⟨#[]⟩] 45):=⟨_,rfl⟩
  have HT0:Hid (Tr b A s (.cells #[.int .i64 0,.string ⟨#[]⟩] 45) w W):=by show Tr _ _ _ _ _ _;rw [hW,hA];exact tr_new h _
  have HZ0:Hid (s.size<=maxLen):=hs
  have HW:Hid (W = w.alloc (.cells #[.int .i64 0,.string ⟨#[]⟩] 45)/\A = w.heap.size):=⟨hW,hA⟩
  clear h hs hW hA
  go_enter Tryz.func81,Tryz.ntmps81
  go_wp2_with fail
  rw [← HW.out.1,← HW.out.2]
  clear HW
  refine (num_any' b 4 s _ HT0.out.tx.box HZ0.out).mono ?_
  rintro e w1 ⟨rfl,hx⟩
  have HX1:Hid (Tr b A (Sh.dr 4 s) (.cells #[.int .i64 0,.string ⟨#[]⟩] 45) w w1):=HT0.out.call hx
  have c0:=cell_at HX1.out.at_ 0
  have c1:=cell_at HX1.out.at_ 1
  have f0:=fr_at HX1.out.at_
  simp at c0 c1
  clear hx HT0
  have HT1:Hid (Tr b A (Sh.dr 4 s) (.cells #[.int .i64 (Sh.nm 4 s),.string ⟨#[]⟩] 45) w (w1.setCell ⟨A,0,none⟩ (.int .i64 (Sh.nm 4 s)))):=(HX1.out.set 0 (.int .i64 (Sh.nm 4 s)))
  have HZ1:Hid ((Sh.dr 4 s).size<=maxLen):=Nat.le_trans (Sh.dr_size _ _) HZ0.out
  go_wp2_with fail
  clear c0 c1 f0 HX1 HZ0
  refine (rest_any b (Sh.dr 4 s) _ HT1.out.tx.box HZ1.out).mono ?_
  rintro e w2 ⟨rfl,hx⟩
  have HX2:Hid (Tr b A (Sh.dr (Sh.dr 4 s).size (Sh.dr 4 s)) (.cells #[.int .i64 (Sh.nm 4 s),.string ⟨#[]⟩] 45) w w2):=HT1.out.call hx
  have c0:=cell_at HX2.out.at_ 0
  have c1:=cell_at HX2.out.at_ 1
  have f0:=fr_at HX2.out.at_
  simp at c0 c1
  clear hx HT1
  have HT2:Hid (Tr b A (Sh.dr (Sh.dr 4 s).size (Sh.dr 4 s)) (.cells #[.int .i64 (Sh.nm 4 s),.string (Sh.dr 4 s)] 45) w (w2.setCell ⟨A,1,none⟩ (.string (Sh.dr 4 s)))):=(HX2.out.set 1 (.string (Sh.dr 4 s)))
  have HF:Hid (Tr b A (Sh.dr (Sh.dr 4 s).size (Sh.dr 4 s)) (.cells #[.int .i64 (Sh.nm 4 s),.string (Sh.dr 4 s)] 45) w (((w2.setCell ⟨A,1,none⟩ (.string (Sh.dr 4 s))).setCell ⟨A,0,none⟩ (.int .i64 (Sh.nm 4 s))).setCell ⟨A,1,none⟩ (.string (Sh.dr 4 s)))):=((HT2.out.set 0 (.int .i64 (Sh.nm 4 s))).set 1 (.string (Sh.dr 4 s)))
  go_wp2
  generalize (((w2.setCell ⟨A,1,none⟩ (.string (Sh.dr 4 s))).setCell ⟨A,0,none⟩ (.int .i64 (Sh.nm 4 s))).setCell ⟨A,1,none⟩ (.string (Sh.dr 4 s))) = WF at HF ⊢
  have d0:=cell_at HF.out.at_ 0
  have d1:=cell_at HF.out.at_ 1
  simp at d0 d1
  clear c0 HT2 HX2 f0
  refine bodyPost_ret (v:=.agg #[.int .i64 (Sh.rdR s).1,.string (Sh.rdR s).2]) ?_ rfl ⟨rfl,(Sh.dr (Sh.dr 4 s).size (Sh.dr 4 s)),?_⟩
  · rw [results_cell1 rfl]
    go_simp
    simp only [Sh.rdR,and_self]
  · exact HF.out.tx
set_option maxHeartbeats 1000000 in
theorem ventry_any (b:Nat) (s:ByteArray) (w:World) (h:w.heap[b]? = some (BT s)) (hs:s.size<=maxLen) :
    Calls Tryz.prog 82 #[.pointer (some ⟨b,0,none⟩)] w fun e w'=>e = .returned (.agg #[.string (Sh.rdE s).1,.int .i64 (Sh.rdE s).2.1,.int .i64 (Sh.rdE s).2.2.1,.int .i64 (Sh.rdE s).2.2.2])/\∃ t,Tx b t w w':=by
  obtain ⟨A,hA⟩:∃ n,n = w.heap.size:=⟨_,rfl⟩
  obtain ⟨W,hW⟩:∃ W,W = w.alloc (.cells #[.string ⟨#[]⟩,.int .i64 0,.int .i64 0,.int .i64 0] 79):=⟨_,rfl⟩
  have HT0:Hid (Tr b A s (.cells #[.string ⟨#[]⟩,.int .i64 0,.int .i64 0,.int .i64 0] 79) w W):=by show Tr _ _ _ _ _ _;rw [hW,hA];exact tr_new h _
  have HZ0:Hid (s.size<=maxLen):=hs
  have HW:Hid (W = w.alloc (.cells #[.string ⟨#[]⟩,.int .i64 0,.int .i64 0,.int .i64 0] 79)/\A = w.heap.size):=⟨hW,hA⟩
  clear h hs hW hA
  go_enter Tryz.func82,Tryz.ntmps82
  go_wp2_with fail
  rw [← HW.out.1,← HW.out.2]
  clear HW
  refine (num_any' b 6 s _ HT0.out.tx.box HZ0.out).mono ?_
  rintro e w1 ⟨rfl,hx⟩
  have HX1:Hid (Tr b A (Sh.dr 6 s) (.cells #[.string ⟨#[]⟩,.int .i64 0,.int .i64 0,.int .i64 0] 79) w w1):=HT0.out.call hx
  have c0:=cell_at HX1.out.at_ 0
  have c1:=cell_at HX1.out.at_ 1
  have c2:=cell_at HX1.out.at_ 2
  have c3:=cell_at HX1.out.at_ 3
  have f0:=fr_at HX1.out.at_
  simp at c0 c1 c2 c3
  clear hx HT0
  have HT1:Hid (Tr b A (Sh.dr 6 s) (.cells #[.string ⟨#[]⟩,.int .i64 (Sh.nm 6 s),.int .i64 0,.int .i64 0] 79) w (w1.setCell ⟨A,1,none⟩ (.int .i64 (Sh.nm 6 s)))):=(HX1.out.set 1 (.int .i64 (Sh.nm 6 s)))
  have HZ1:Hid ((Sh.dr 6 s).size<=maxLen):=Nat.le_trans (Sh.dr_size _ _) HZ0.out
  go_wp2_with fail
  clear c0 c1 c2 c3 f0 HX1 HZ0
  refine (handle_any b (Sh.dr 6 s) _ HT1.out.tx.box HZ1.out).mono ?_
  rintro e w2 ⟨rfl,hx⟩
  have HX2:Hid (Tr b A (Sh.dr 6 (Sh.dr 1 (Sh.dr 6 s))) (.cells #[.string ⟨#[]⟩,.int .i64 (Sh.nm 6 s),.int .i64 0,.int .i64 0] 79) w w2):=HT1.out.call hx
  have c0:=cell_at HX2.out.at_ 0
  have c1:=cell_at HX2.out.at_ 1
  have c2:=cell_at HX2.out.at_ 2
  have c3:=cell_at HX2.out.at_ 3
  have f0:=fr_at HX2.out.at_
  simp at c0 c1 c2 c3
  clear hx HT1
  have HT2:Hid (Tr b A (Sh.dr 6 (Sh.dr 1 (Sh.dr 6 s))) (.cells #[.string ⟨#[]⟩,.int .i64 (Sh.nm 6 s),.int .i64 (Sh.rdH (Sh.dr 6 s)).1,.int .i64 (Sh.rdH (Sh.dr 6 s)).2] 79) w ((w2.setCell ⟨A,2,none⟩ (.int .i64 (Sh.rdH (Sh.dr 6 s)).1)).setCell ⟨A,3,none⟩ (.int .i64 (Sh.rdH (Sh.dr 6 s)).2))):=((HX2.out.set 2 (.int .i64 (Sh.rdH (Sh.dr 6 s)).1)).set 3 (.int .i64 (Sh.rdH (Sh.dr 6 s)).2))
  have HZ2:Hid ((Sh.dr 6 (Sh.dr 1 (Sh.dr 6 s))).size<=maxLen):=Nat.le_trans (Nat.le_trans (Sh.dr_size _ _) (Sh.dr_size _ _)) HZ1.out
  go_wp2_with fail
  clear c0 c1 c2 c3 f0 HX2 HZ1
  refine (rest_any b (Sh.dr 6 (Sh.dr 1 (Sh.dr 6 s))) _ HT2.out.tx.box HZ2.out).mono ?_
  rintro e w3 ⟨rfl,hx⟩
  have HX3:Hid (Tr b A (Sh.dr (Sh.dr 6 (Sh.dr 1 (Sh.dr 6 s))).size (Sh.dr 6 (Sh.dr 1 (Sh.dr 6 s)))) (.cells #[.string ⟨#[]⟩,.int .i64 (Sh.nm 6 s),.int .i64 (Sh.rdH (Sh.dr 6 s)).1,.int .i64 (Sh.rdH (Sh.dr 6 s)).2] 79) w w3):=HT2.out.call hx
  have c0:=cell_at HX3.out.at_ 0
  have c1:=cell_at HX3.out.at_ 1
  have c2:=cell_at HX3.out.at_ 2
  have c3:=cell_at HX3.out.at_ 3
  have f0:=fr_at HX3.out.at_
  simp at c0 c1 c2 c3
  clear hx HT2
  have HT3:Hid (Tr b A (Sh.dr (Sh.dr 6 (Sh.dr 1 (Sh.dr 6 s))).size (Sh.dr 6 (Sh.dr 1 (Sh.dr 6 s)))) (.cells #[.string (Sh.dr 6 (Sh.dr 1 (Sh.dr 6 s))),.int .i64 (Sh.nm 6 s),.int .i64 (Sh.rdH (Sh.dr 6 s)).1,.int .i64 (Sh.rdH (Sh.dr 6 s)).2] 79) w (w3.setCell ⟨A,0,none⟩ (.string (Sh.dr 6 (Sh.dr 1 (Sh.dr 6 s)))))):=(HX3.out.set 0 (.string (Sh.dr 6 (Sh.dr 1 (Sh.dr 6 s)))))
  have HF:Hid (Tr b A (Sh.dr (Sh.dr 6 (Sh.dr 1 (Sh.dr 6 s))).size (Sh.dr 6 (Sh.dr 1 (Sh.dr 6 s)))) (.cells #[.string (Sh.dr 6 (Sh.dr 1 (Sh.dr 6 s))),.int .i64 (Sh.nm 6 s),.int .i64 (Sh.rdH (Sh.dr 6 s)).1,.int .i64 (Sh.rdH (Sh.dr 6 s)).2] 79) w (((((w3.setCell ⟨A,0,none⟩ (.string (Sh.dr 6 (Sh.dr 1 (Sh.dr 6 s))))).setCell ⟨A,0,none⟩ (.string (Sh.dr 6 (Sh.dr 1 (Sh.dr 6 s))))).setCell ⟨A,1,none⟩ (.int .i64 (Sh.nm 6 s))).setCell ⟨A,2,none⟩ (.int .i64 (Sh.rdH (Sh.dr 6 s)).1)).setCell ⟨A,3,none⟩ (.int .i64 (Sh.rdH (Sh.dr 6 s)).2))):=((((HT3.out.set 0 (.string (Sh.dr 6 (Sh.dr 1 (Sh.dr 6 s))))).set 1 (.int .i64 (Sh.nm 6 s))).set 2 (.int .i64 (Sh.rdH (Sh.dr 6 s)).1)).set 3 (.int .i64 (Sh.rdH (Sh.dr 6 s)).2))
  go_wp2
  generalize (((((w3.setCell ⟨A,0,none⟩ (.string (Sh.dr 6 (Sh.dr 1 (Sh.dr 6 s))))).setCell ⟨A,0,none⟩ (.string (Sh.dr 6 (Sh.dr 1 (Sh.dr 6 s))))).setCell ⟨A,1,none⟩ (.int .i64 (Sh.nm 6 s))).setCell ⟨A,2,none⟩ (.int .i64 (Sh.rdH (Sh.dr 6 s)).1)).setCell ⟨A,3,none⟩ (.int .i64 (Sh.rdH (Sh.dr 6 s)).2)) = WF at HF ⊢
  have d0:=cell_at HF.out.at_ 0
  have d1:=cell_at HF.out.at_ 1
  have d2:=cell_at HF.out.at_ 2
  have d3:=cell_at HF.out.at_ 3
  simp at d0 d1 d2 d3
  clear c0 HT3 HX3 f0
  refine bodyPost_ret (v:=.agg #[.string (Sh.rdE s).1,.int .i64 (Sh.rdE s).2.1,.int .i64 (Sh.rdE s).2.2.1,.int .i64 (Sh.rdE s).2.2.2]) ?_ rfl ⟨rfl,(Sh.dr (Sh.dr 6 (Sh.dr 1 (Sh.dr 6 s))).size (Sh.dr 6 (Sh.dr 1 (Sh.dr 6 s)))),?_⟩
  · rw [results_cell1 rfl]
    go_simp
    simp only [Sh.rdE,and_self]
  · exact HF.out.tx
end Go.Proofs.YtggoccfddnpelaaGreatDoor
