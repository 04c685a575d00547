/- NOq0, NOq, as one. -/
import Derived.Test.YtneojimodomohaaGreatP3
namespace Go.Proofs.YtneojimodomohaaGreat
open Go.ChangeShapes Go.WideShapes Go.ChangeAt Go.RowKit Go.Deep It
set_option maxRecDepth 100000
abbrev BH2 (a b:Int):Obj:=.cells #[.int .i64 a,.int .i64 b] 28
theorem wpAny_l {P:Program} {md:Region.Mode} {ops:Array Oper} {Q:Exit->Act->World->Prop} {n:Nat} {l l':Array Bool} {a:Act} {w:World} (h:l = l') (H:wpAny P md ops Q n l' a w):wpAny P md ops Q n l a w:=by rw [h];exact H
theorem kp {w w':World} {A:Nat} {o:Obj} (hb:Below w.heap.size w w') (h:w.heap[A]? = some o):w'.heap[A]? = some o:=(hb.block _ (qL h)).trans h
theorem al_new {V v:World} {o:Obj} {A:Nat} (hv:v = V.alloc o) (hA:A = V.heap.size):Below V.heap.size V v/\v.heap[A]? = some o:=by
 subst hv hA
 exact ⟨(Below.refl _ _).alloc (Nat.le_refl _) _,heap_alloc_new _ _⟩
def Svs (S:Nat->Prop) (w:World) (u uo:Value) (T:List Ino) (O:List Os.Opn):Prop:=∃ L,TabAt S w u L/\pl L = T/\At Os.EO S w uo O
theorem Svs.up {S:Nat->Prop} {w w':World} {u uo:Value} {T:List Ino} {O:List Os.Opn} (h:Svs S w u uo T O) (hb:Below w.heap.size w w'):Svs S w' u uo T O:=by
 obtain ⟨L,h1,h2,h3⟩:=h
 exact ⟨L,h1.up hb,h2,h3.up hb⟩
theorem Svs.imp {S P:Nat->Prop} {w:World} {u uo:Value} {T:List Ino} {O:List Os.Opn} (h:Svs S w u uo T O) (hk:∀ b,S b->b < w.heap.size->P b):Svs P w u uo T O:=by
 obtain ⟨L,h1,h2,h3⟩:=h
 exact ⟨L,h1.imp hk,h2,h3.imp hk⟩
theorem svs_new (w:World):Calls Tryz.prog 17 #[] w fun e w'=>∃ ap n cp,e = .returned (VSt (.slice ap n cp) (.slice none 0 0) (.slice none 0 0) 0)/\Svs (fun b=>w.heap.size<=b) w' (.slice ap n cp) (.slice none 0 0) It.new []/\Below w.heap.size w w':=by
 refine (nnew_any w).mono ?_
 rintro e w' ⟨ap,n,cp,L,rfl,ht,hp,hb⟩
 exact ⟨ap,n,cp,rfl,⟨L,ht,hp,At.nil⟩,hb⟩
theorem svs_do {S:Nat->Prop} {u uo:Value} {sp:Option Addr} {sn sc:Nat} {dn cl:Int} {c:Cal} {T:List Ino} {O:List Os.Opn} {w:World} (h:Svs S w u uo T O) (hx:Nf.RX T O dn (fun _=>False)) (hc:fits c) {R:Nf.Rpl} {T':List Ino} {Q:List Os.Opn} {D:Int} (hR:Nf.doR T O dn cl c = R) (hT:Nf.doT T O dn cl c = T') (hQ:Nf.doO T O dn cl c = Q) (hD:Nf.doD T O dn cl = D) :
  Calls Tryz.prog 11 #[VSt u uo (.slice sp sn sc) dn,.int .i64 cl,Ks.VC c] w fun e w'=>∃ ep en ec up un uc op on oc,e = .returned (.tuple #[VSt (.slice up un uc) (.slice op on oc) (.slice sp sn sc) D,VR R (.slice ep en ec)])/\Svs (fun b=>S b∨w.heap.size<=b) w' (.slice up un uc) (.slice op on oc) T' Q/\Below w.heap.size w w':=by
 obtain ⟨L,h1,h2,h3⟩:=h
 subst h2
 refine (do_step h1 h3 (Sp.okN_sp hx.sp) hc hR hT hQ hD).mono ?_
 rintro e w' ⟨ep,en,ec,up,un,uc,op,on,oc,L1,rfl,ht,hp,hq,-,hb⟩
 exact ⟨ep,en,ec,up,un,uc,op,on,oc,rfl,⟨L1,ht,hp,hq⟩,hb⟩
structure Rgn (n:Nat) (o:Obj) (U:World) (A7 A8:Nat) (u uo:Value) (T:List Ino) (O:List Os.Opn) (W:World):Prop where
 h7:U.heap[A7]? = some BS0
 h8:U.heap[A8]? = some BR0
 ne:A7≠A8
 w7:W.heap.size<=A7
 w8:W.heap.size<=A8
 sv:Svs (fun b=>b≠A8) U u uo T O
 bl:Below W.heap.size W U
theorem Rgn.fill {n:Nat} {o:Obj} {U U2 W:World} {A7 A8:Nat} {a d:Option Addr} {b c e f:Nat} {T:List Ino} {O:List Os.Opn} {D:Int} {R:Nf.Rpl} {v:Value} (h:Rgn n o U A7 A8 (.slice a b c) (.slice d e f) T O W) (hU:U2 = (U.setCells A7 0 (cS (.slice a b c) (.slice d e f) (.slice none 0 0) D)).setCells A8 0 (cR R v)) :
  U2.heap[A7]? = some (BSt (.slice a b c) (.slice d e f) (.slice none 0 0) D)/\U2.heap[A8]? = some (BRl R v)/\Sv U2 (.slice a b c) (.slice d e f) T O/\Below W.heap.size W U2:=by
 subst hU
 obtain ⟨L,⟨t1,t2⟩,t3,t4⟩:=h.sv
 have e1:At EI (fun b=>b≠A8/\b≠A7) U (.slice a b c) L:=(At.off_st2 t1 h.h7 fun x=>.inr ⟨x.i.gen,x.i.kind,rfl,rfl⟩)
 have e2:At Os.EO (fun b=>b≠A8/\b≠A7) U (.slice d e f) O:=(At.off_st2 t4 h.h7 fun x=>.inr ⟨x.1,x.2.1,rfl,rfl⟩)
 have e3:TabAt (fun b=>b≠A8/\b≠A7) U (.slice a b c) L:=⟨e1,fun x hx=>⟨At.off_st2 (t2 x hx).1 h.h7 fun y=>.inl ⟨1,y.2,rfl⟩,At.off_st2 (t2 x hx).2.1 h.h7 fun y=>.inl ⟨0,y.1,rfl⟩,(t2 x hx).2.2⟩⟩
 refine ⟨(setCells_off _ _ _ h.ne).trans (setCells_at (cS (.slice a b c) (.slice d e f) (.slice none 0 0) D) h.h7 rfl),setCells_at (cR R v) ((setCells_off _ _ _ (Ne.symm h.ne)).trans h.h8) rfl,⟨L,(setCells_tab (fun h=>h.1 rfl) _ _ _ (setCells_tab (fun h=>h.2 rfl) _ _ _ e3)).wide,t3,(setCells_ats (fun h=>h.1 rfl) _ _ _ (setCells_ats (fun h=>h.2 rfl) _ _ _ e2)).wide⟩,setCells_below h.w8 _ _ _ (setCells_below h.w7 _ _ _ h.bl)⟩
structure Stg (W v:World) (o7 o8:Option Nat):Prop where
 bl:Below W.heap.size W v
 h7:∀ A,o7 = some A->v.heap[A]? = some BS0/\W.heap.size<=A
 h8:∀ A,o8 = some A->v.heap[A]? = some BR0/\W.heap.size<=A
 ne:∀ A B,o7 = some A->o8 = some B->A≠B
section
variable {W v v':World} {o7 o8:Option Nat} {u uo:Value} {T:List Ino} {O:List Os.Opn} {A:Nat}
theorem Stg.call (h:Stg W v o7 o8) (hb:Below v.heap.size v v'):Stg W v' o7 o8:=⟨h.bl.trans (hb.mono h.bl.size),fun A hA=>⟨kp hb (h.h7 A hA).1,(h.h7 A hA).2⟩,fun A hA=>⟨kp hb (h.h8 A hA).1,(h.h8 A hA).2⟩,h.ne⟩
theorem Stg.at8 (h:Stg W v o7 o8) {b:Nat} (hb:v.heap.size<=b):o8≠some b:=fun e=>by
 have:=(Array.getElem?_eq_some_iff.1 (h.h8 b e).1).1
 omega
theorem Stg.fresh (h:Stg W v o7 o8) (hs:Svs (fun b=>v.heap.size<=b) v' u uo T O):Svs (fun b=>o8≠some b) v' u uo T O:=hs.imp fun _ hb _=>h.at8 hb
theorem Stg.keep (h:Stg W v o7 o8) (hs:Svs (fun b=>o8≠some b∨v.heap.size<=b) v' u uo T O):Svs (fun b=>o8≠some b) v' u uo T O:=hs.imp fun _ hb _=>hb.elim id h.at8
theorem Stg.new7 (h:Stg W v none o8) (hv:v' = v.alloc BS0) (hA:A = v.heap.size):Stg W v' (some A) o8:=by
 obtain ⟨hb,hn⟩:=al_new hv hA
 have g:=h.call hb
 refine ⟨g.bl,fun B hB=>by cases hB;exact ⟨hn,by rw [hA];exact h.bl.size⟩,g.h8,fun B C hB hC=>?_⟩
 cases hB
 have:=(Array.getElem?_eq_some_iff.1 (h.h8 C hC).1).1
 omega
theorem Stg.new8 (h:Stg W v o7 none) (hv:v' = v.alloc BR0) (hA:A = v.heap.size):Stg W v' o7 (some A):=by
 obtain ⟨hb,hn⟩:=al_new hv hA
 have g:=h.call hb
 refine ⟨g.bl,g.h7,fun B hB=>by cases hB;exact ⟨hn,by rw [hA];exact h.bl.size⟩,fun C B hC hB=>?_⟩
 cases hB
 have:=(Array.getElem?_eq_some_iff.1 (h.h7 C hC).1).1
 omega
theorem svs7 {S:Nat->Prop} {o:Obj} (h:Svs S v u uo T O) (hv:v' = v.alloc o):Svs S v' u uo T O:=h.up (al_new hv rfl).1
theorem svs8 {S:Nat->Prop} {o:Obj} (h:Svs S v u uo T O) (hv:v' = v.alloc o) (hA:A = v.heap.size):Svs (fun b=>some A≠some b) v' u uo T O:=(h.imp fun b _ hl e=>by cases e;omega).up (al_new hv rfl).1
theorem Stg.rgn {B n:Nat} {o:Obj} (h:Stg W v (some A) (some B)) (hs:Svs (fun b=>some B≠some b) v u uo T O):Rgn n o v A B u uo T O W:=⟨(h.h7 A rfl).1,(h.h8 B rfl).1,h.ne A B rfl rfl,(h.h7 A rfl).2,(h.h8 B rfl).2,hs.imp fun b hb _ e=>hb (by rw [e]),h.bl⟩
theorem Stg.cell {k:Nat} {o:Obj} (h:Stg W v o7 o8) (hk:W.heap[k]? = some o):v.heap[k]? = some o:=kp h.bl hk
end
structure Big (W U:World) (A:Nat) (u uo:Value) (D:Int) (u' uo':Value) (T:List Ino) (O:List Os.Opn) (l:List (Nat × Obj)):Prop where
 st:U.heap[A]? = some (BSt u uo (.slice none 0 0) D)
 sv:Sv U u' uo' T O
 bx:∀ p∈l,U.heap[p.1]? = some p.2/\p.1≠A
 w7:W.heap.size<=A
 bl:Below W.heap.size W U
section
variable {W U V:World} {A:Nat} {u uo u' uo':Value} {D D':Int} {T T':List Ino} {O O':List Os.Opn} {l:List (Nat × Obj)}
theorem Big.call {x xo:Value} (h:Big W U A u uo D u' uo' T O l) (hb:Below U.heap.size U V) (hs:Sv V x xo T' O'):Big W V A u uo D x xo T' O' l:=⟨kp hb h.st,hs,fun p hp=>⟨kp hb (h.bx p hp).1,(h.bx p hp).2⟩,h.w7,h.bl.trans (hb.mono h.bl.size)⟩
theorem Big.store {a d a' d':Option Addr} {b c e f b' c' e' f' B:Nat} {o:Obj} (h:Big W U A (.slice a b c) (.slice d e f) D (.slice a' b' c') (.slice d' e' f') T O l) (hV:V = (U.setCells A 0 (cS (.slice a' b' c') (.slice d' e' f') (.slice none 0 0) D')).alloc o) (hB:B = U.heap.size):Big W V A (.slice a' b' c') (.slice d' e' f') D' (.slice a' b' c') (.slice d' e' f') T O (l ++ [(B,o)]):=by
 obtain ⟨n1,n2,n3,n4,n5,n6⟩:=box_next h.st h.sv hV
 refine ⟨n1,n3,fun p hp=>?_,h.w7,n6 h.w7 h.bl.size h.bl⟩
 rcases List.mem_append.1 hp with hp | hp
 ·obtain ⟨k1,k2⟩:=h.bx p hp
  exact ⟨(n4 _ (qL k1) k2).trans k1,k2⟩
 ·rw [List.mem_singleton.1 hp,hB]
  refine ⟨n2,fun e=>?_⟩
  have:=(qL h.st)
  have e2:U.heap.size = A:=e
  omega
theorem Big.at (h:Big W U A u uo D u' uo' T O l) (k:Nat) {B:Nat} {o:Obj} (hk:l[k]? = some (B,o)):U.heap[B]? = some o/\B≠A/\B < U.heap.size:=⟨(h.bx _ (List.mem_of_getElem? hk)).1,(h.bx _ (List.mem_of_getElem? hk)).2,(Array.getElem?_eq_some_iff.1 (h.bx _ (List.mem_of_getElem? hk)).1).1⟩
end
theorem Rgn.big {n k:Nat} {o o2:Obj} {U U2 W:World} {A7 A8:Nat} {a d:Option Addr} {b c e f:Nat} {T:List Ino} {O:List Os.Opn} {D:Int} {R:Nf.Rpl} {v:Value} (h:Rgn n o U A7 A8 (.slice a b c) (.slice d e f) T O W) (hU:U2 = (U.setCells A7 0 (cS (.slice a b c) (.slice d e f) (.slice none 0 0) D)).setCells A8 0 (cR R v)) (hk:k < W.heap.size) (ho:W.heap[k]? = some o2):Big W U2 A7 (.slice a b c) (.slice d e f) D (.slice a b c) (.slice d e f) T O [(k,o2),(A8,BRl R v)]:=by
 obtain ⟨m1,m2,m3,m4⟩:=h.fill hU
 have h7:=h.w7
 refine ⟨m1,m3,fun p hp=>?_,h.w7,m4⟩
 rcases List.mem_cons.1 hp with rfl | hp
 ·exact ⟨(m4.block _ hk).trans ho,by show k≠A7;omega⟩
 ·rw [List.mem_singleton.1 hp]
  exact ⟨m2,Ne.symm h.ne⟩
namespace Fst
section
variable {P:Program} {ops:Array Oper} {Q:Exit->Act->World->Prop} {md:Region.Mode} {S:World->Prop}
theorem s1 {ls:List Nat} {n:Nat} {l:Array Bool} {a:Act} {w:World} (i:Nat) {oi:Oper} (hi:(∀ K':Act->World->Prop,(∀ a w,S w->anyL P md ops Q (fun k=>ls.contains k) S n (l.setIfInBounds i true) a w->K' a w)->if Region.wanted oi (yielded ops a.tmps) = true then Oper.wp P oi a w K' Q else K' (a.put oi.dst undef) w)) (hr:Region.ready md ops l = [i]:=by kernel_rfl) (gi:ops[i]? = some oi:=by rfl):anyL P md ops Q (fun k=>ls.contains k) S (n + 1) l a w:=one hr gi hi
theorem s2 {ls:List Nat} {n:Nat} {l:Array Bool} {a:Act} {w:World} (i j:Nat) {oi oj:Oper} (hi:(∀ K':Act->World->Prop,(∀ a w,S w->anyL P md ops Q (fun k=>ls.contains k) S n (l.setIfInBounds i true) a w->K' a w)->if Region.wanted oi (yielded ops a.tmps) = true then Oper.wp P oi a w K' Q else K' (a.put oi.dst undef) w)) (hj:(∀ K':Act->World->Prop,(∀ a w,S w->anyL P md ops Q (fun k=>ls.contains k) S n (l.setIfInBounds j true) a w->K' a w)->if Region.wanted oj (yielded ops a.tmps) = true then Oper.wp P oj a w K' Q else K' (a.put oj.dst undef) w)) (hr:Region.ready md ops l = [i,j]:=by kernel_rfl) (gi:ops[i]? = some oi:=by rfl) (gj:ops[j]? = some oj:=by rfl):anyL P md ops Q (fun k=>ls.contains k) S (n + 1) l a w:=both hr gi gj hi hj
theorem s3 {ls:List Nat} {n:Nat} {l:Array Bool} {a:Act} {w:World} (i j m:Nat) {oi oj om:Oper} (hi:(∀ K':Act->World->Prop,(∀ a w,S w->anyL P md ops Q (fun k=>ls.contains k) S n (l.setIfInBounds i true) a w->K' a w)->if Region.wanted oi (yielded ops a.tmps) = true then Oper.wp P oi a w K' Q else K' (a.put oi.dst undef) w)) (hj:(∀ K':Act->World->Prop,(∀ a w,S w->anyL P md ops Q (fun k=>ls.contains k) S n (l.setIfInBounds j true) a w->K' a w)->if Region.wanted oj (yielded ops a.tmps) = true then Oper.wp P oj a w K' Q else K' (a.put oj.dst undef) w)) (hm:(∀ K':Act->World->Prop,(∀ a w,S w->anyL P md ops Q (fun k=>ls.contains k) S n (l.setIfInBounds m true) a w->K' a w)->if Region.wanted om (yielded ops a.tmps) = true then Oper.wp P om a w K' Q else K' (a.put om.dst undef) w)) (hr:Region.ready md ops l = [i,j,m]:=by kernel_rfl) (gi:ops[i]? = some oi:=by rfl) (gj:ops[j]? = some oj:=by rfl) (gm:ops[m]? = some om:=by rfl):anyL P md ops Q (fun k=>ls.contains k) S (n + 1) l a w:=three hr gi gj gm hi hj hm
theorem tp {ls:List Nat} {i:Nat} {oi:Oper} {v:Value} {n:Nat} {l:Array Bool} {a:Act} {w:World} (hi:ops[i]? = some oi) (hS:S w)
  (h:anyL P md ops Q (fun k=>ls.contains k) S n (l.setIfInBounds i true) (a.put oi.dst v) w)
  (hy:YieldsIf P ops (fun _=>True) oi v a:=by exact Or.inl ⟨by rfl,fun V _=>by go_simp;try with_reducible rfl⟩) (hb:(Region.noSelect ops && (Region.free md ops l i && ((Region.ready md ops l).contains i && !ls.contains i))) = true:=by kernel_rfl) (hQ:∀ c a w,Q (.panic c) (a.put oi.dst v) w->Q (.panic c) a w:=by exact fun _ _ _ h=>h):anyL P md ops Q (fun k=>ls.contains k) S (n + 1) l a w:=by
 simp only [Bool.and_eq_true,Bool.not_eq_true'] at hb
 exact takeP hi hb.1 hb.2.1 hb.2.2.1 hb.2.2.2 hQ hy hS h
end
end Fst
abbrev R1:Nf.Rpl:=⟨0,1,1,1,1,0,1,⟨#[]⟩,[],0⟩
set_option linter.unusedSimpArgs false in
set_option maxHeartbeats 8000000 in
theorem orphan_any (w:World):Calls Tryz.prog 10 #[] w fun e w'=>e = .returned (.bool true)/\Below w.heap.size w w':=by
 obtain ⟨W,hW⟩:∃ W,W = w.alloc (BH2 0 1):=⟨_,rfl⟩
 have HB0:Hid (Below w.heap.size w W):=by show Below w.heap.size w W;rw [hW];exact (Below.refl _ w).alloc (Nat.le_refl _) _
 have HA0:Hid (W.heap[w.heap.size]? = some (BH2 0 1)):=by show W.heap[w.heap.size]? = _;rw [hW];exact heap_alloc_new _ _
 have hwW:w.heap.size < W.heap.size:=(qL HA0.out)
 go_enter Tryz.func10,Tryz.ntmps10
 go_wp2_with fail
 rw [← hW]
 clear hW
 apply cut_in
 ·intro hK0
  refine wp_region_any (by kernel_rfl) ?_
  change wpAny _ _ _ _ _ _ _ (World.drew _)
  have HS:(fun V:World=>V.heap[w.heap.size]? = some (BH2 0 1)) W.drew:=HA0.out
  refine Fst.any_of (late:=fun k=>[9,10].contains k) (S:=fun V:World=>V.heap[w.heap.size]? = some (BH2 0 1)) _ _ _ _ ?_
  refine Fst.tk (ls:=[9,10]) (i:=1) (v:=?v1) rfl (Or.inl ⟨by rfl,?h1⟩) HS ?r1
  case h1=>(intro V s;have s0:=cell_at s 0;have s1:=cell_at s 1;simp at s0 s1;go_simp;try with_reducible rfl)
  try simp only [Act.put,qX,qY,qZ]
  refine Fst.tp (i:=2) rfl (HS) ?_
  try simp only [Act.put,qX,qY,qZ]
  clear HS
  have H:Hid (Stg W W.drew none none):=⟨bel_drew (Below.refl _ _),fun _ h=>(by cases h),fun _ h=>(by cases h),fun _ _ h=>(by cases h)⟩
  refine Fst.s3 0 7 8 (fun K hK=>?_) (fun K hK=>?_) (fun K hK=>?_)
  ·go_simp
   refine (svs_new _).mono ?_
   rintro e v1 ⟨ap,n,cp,rfl,hs,hb⟩
   have T:Hid (Svs _ v1 _ _ _ _):=H.out.fresh hs
   replace H:Hid (Stg W v1 _ _):=H.out.call hb
   clear hs hb
   refine hK _ _ (H.out.cell HA0.out) ?_
   clear hK K
   try simp only [Act.put,qX,qY,qZ]
   refine Fst.s3 3 7 8 (fun K hK=>?_) (fun K hK=>?_) (fun K hK=>?_)
   ·go_simp
    refine (svs_do (cl:=5) (c:=Nf.c1) T.out Nf.rx_new (by unfold fits maxLen;decide) Nf.step1.1 Nf.step1.2.1 Nf.step1.2.2.1 Nf.step1.2.2.2).mono ?_
    rintro e v2 ⟨ep,en,ec,up,un,uc,op,on,oc,rfl,hs,hb⟩
    replace T:Hid (Svs _ v2 _ _ _ _):=H.out.keep hs
    replace H:Hid (Stg W v2 _ _):=H.out.call hb
    clear hs hb
    refine hK _ _ (H.out.cell HA0.out) ?_
    clear hK K
    try simp only [Act.put,qX,qY,qZ]
    refine Fst.tp (i:=4) rfl (H.out.cell HA0.out) ?_
    try simp only [Act.put,qX,qY,qZ]
    refine Fst.tp (i:=5) rfl (H.out.cell HA0.out) ?_
    try simp only [Act.put,qX,qY,qZ]
    refine Fst.tp (i:=6) rfl (H.out.cell HA0.out) ?_
    try simp only [Act.put,qX,qY,qZ]
    refine Fst.s2 7 8 (fun K hK=>?_) (fun K hK=>?_)
    ·go_simp
     obtain ⟨A7,hA⟩:∃ a,a = v2.heap.size:=⟨_,rfl⟩
     obtain ⟨v3,hv⟩:∃ x,x = v2.alloc BS0:=⟨_,rfl⟩
     replace T:Hid (Svs _ v3 _ _ _ _):=svs7 T.out hv
     replace H:Hid (Stg W v3 _ _):=H.out.new7 hv hA
     rw [← hv,← hA]
     clear hv hA
     refine hK _ _ (H.out.cell HA0.out) ?_
     clear hK K
     try simp only [Act.put,qX,qY,qZ]
     refine Fst.s1 8 (fun K hK=>?_)
     go_simp
     obtain ⟨A8,hA⟩:∃ a,a = v3.heap.size:=⟨_,rfl⟩
     obtain ⟨v4,hv⟩:∃ x,x = v3.alloc BR0:=⟨_,rfl⟩
     replace T:Hid (Svs _ v4 _ _ _ _):=svs8 T.out hv hA
     replace H:Hid (Stg W v4 _ _):=H.out.new8 hv hA
     rw [← hv,← hA]
     clear hv hA
     refine hK _ _ (H.out.cell HA0.out) ?_
     clear hK K
     try simp only [Act.put,qX,qY,qZ]
     refine Fst.rest (by kernel_rfl) ?_
     have HR:Hid (Rgn w.heap.size (BH2 0 1) v4 A7 A8 (.slice up un uc) (.slice op on oc) Nf.F1 [] W):=H.out.rgn T.out
     clear H T
     refine wpAny_l (l':=#[true,true,true,true,true,true,true,true,true,false,false]) (by kernel_rfl) ?_
     revert HR
     revert v4
     revert A8
     revert A7
     revert oc
     revert on
     revert op
     revert uc
     revert un
     revert up
     revert ec
     revert en
     revert ep
     revert cp
     revert n
     revert ap
     exact hK0.out
    ·go_simp
     obtain ⟨A8,hA⟩:∃ a,a = v2.heap.size:=⟨_,rfl⟩
     obtain ⟨v5,hv⟩:∃ x,x = v2.alloc BR0:=⟨_,rfl⟩
     replace T:Hid (Svs _ v5 _ _ _ _):=svs8 T.out hv hA
     replace H:Hid (Stg W v5 _ _):=H.out.new8 hv hA
     rw [← hv,← hA]
     clear hv hA
     refine hK _ _ (H.out.cell HA0.out) ?_
     clear hK K
     try simp only [Act.put,qX,qY,qZ]
     refine Fst.s1 7 (fun K hK=>?_)
     go_simp
     obtain ⟨A7,hA⟩:∃ a,a = v5.heap.size:=⟨_,rfl⟩
     obtain ⟨v6,hv⟩:∃ x,x = v5.alloc BS0:=⟨_,rfl⟩
     replace T:Hid (Svs _ v6 _ _ _ _):=svs7 T.out hv
     replace H:Hid (Stg W v6 _ _):=H.out.new7 hv hA
     rw [← hv,← hA]
     clear hv hA
     refine hK _ _ (H.out.cell HA0.out) ?_
     clear hK K
     try simp only [Act.put,qX,qY,qZ]
     refine Fst.rest (by kernel_rfl) ?_
     refine wpAny_l (l':=#[true,true,true,true,true,true,true,true,true,false,false]) (by kernel_rfl) ?_
     exact hK0.out _ _ _ _ _ _ _ _ _ _ _ _ _ _ _ (H.out.rgn T.out)
   ·go_simp
    obtain ⟨A7,hA⟩:∃ a,a = v1.heap.size:=⟨_,rfl⟩
    obtain ⟨v7,hv⟩:∃ x,x = v1.alloc BS0:=⟨_,rfl⟩
    replace T:Hid (Svs _ v7 _ _ _ _):=svs7 T.out hv
    replace H:Hid (Stg W v7 _ _):=H.out.new7 hv hA
    rw [← hv,← hA]
    clear hv hA
    refine hK _ _ (H.out.cell HA0.out) ?_
    clear hK K
    try simp only [Act.put,qX,qY,qZ]
    refine Fst.s2 3 8 (fun K hK=>?_) (fun K hK=>?_)
    ·go_simp
     refine (svs_do (cl:=5) (c:=Nf.c1) T.out Nf.rx_new (by unfold fits maxLen;decide) Nf.step1.1 Nf.step1.2.1 Nf.step1.2.2.1 Nf.step1.2.2.2).mono ?_
     rintro e v8 ⟨ep,en,ec,up,un,uc,op,on,oc,rfl,hs,hb⟩
     replace T:Hid (Svs _ v8 _ _ _ _):=H.out.keep hs
     replace H:Hid (Stg W v8 _ _):=H.out.call hb
     clear hs hb
     refine hK _ _ (H.out.cell HA0.out) ?_
     clear hK K
     try simp only [Act.put,qX,qY,qZ]
     refine Fst.tp (i:=4) rfl (H.out.cell HA0.out) ?_
     try simp only [Act.put,qX,qY,qZ]
     refine Fst.tp (i:=5) rfl (H.out.cell HA0.out) ?_
     try simp only [Act.put,qX,qY,qZ]
     refine Fst.tp (i:=6) rfl (H.out.cell HA0.out) ?_
     try simp only [Act.put,qX,qY,qZ]
     refine Fst.s1 8 (fun K hK=>?_)
     go_simp
     obtain ⟨A8,hA⟩:∃ a,a = v8.heap.size:=⟨_,rfl⟩
     obtain ⟨v9,hv⟩:∃ x,x = v8.alloc BR0:=⟨_,rfl⟩
     replace T:Hid (Svs _ v9 _ _ _ _):=svs8 T.out hv hA
     replace H:Hid (Stg W v9 _ _):=H.out.new8 hv hA
     rw [← hv,← hA]
     clear hv hA
     refine hK _ _ (H.out.cell HA0.out) ?_
     clear hK K
     try simp only [Act.put,qX,qY,qZ]
     refine Fst.rest (by kernel_rfl) ?_
     refine wpAny_l (l':=#[true,true,true,true,true,true,true,true,true,false,false]) (by kernel_rfl) ?_
     exact hK0.out _ _ _ _ _ _ _ _ _ _ _ _ _ _ _ (H.out.rgn T.out)
    ·go_simp
     obtain ⟨A8,hA⟩:∃ a,a = v7.heap.size:=⟨_,rfl⟩
     obtain ⟨v10,hv⟩:∃ x,x = v7.alloc BR0:=⟨_,rfl⟩
     replace T:Hid (Svs _ v10 _ _ _ _):=svs8 T.out hv hA
     replace H:Hid (Stg W v10 _ _):=H.out.new8 hv hA
     rw [← hv,← hA]
     clear hv hA
     refine hK _ _ (H.out.cell HA0.out) ?_
     clear hK K
     try simp only [Act.put,qX,qY,qZ]
     refine Fst.s1 3 (fun K hK=>?_)
     go_simp
     refine (svs_do (cl:=5) (c:=Nf.c1) T.out Nf.rx_new (by unfold fits maxLen;decide) Nf.step1.1 Nf.step1.2.1 Nf.step1.2.2.1 Nf.step1.2.2.2).mono ?_
     rintro e v11 ⟨ep,en,ec,up,un,uc,op,on,oc,rfl,hs,hb⟩
     replace T:Hid (Svs _ v11 _ _ _ _):=H.out.keep hs
     replace H:Hid (Stg W v11 _ _):=H.out.call hb
     clear hs hb
     refine hK _ _ (H.out.cell HA0.out) ?_
     clear hK K
     try simp only [Act.put,qX,qY,qZ]
     refine Fst.tp (i:=4) rfl (H.out.cell HA0.out) ?_
     try simp only [Act.put,qX,qY,qZ]
     refine Fst.tp (i:=5) rfl (H.out.cell HA0.out) ?_
     try simp only [Act.put,qX,qY,qZ]
     refine Fst.tp (i:=6) rfl (H.out.cell HA0.out) ?_
     try simp only [Act.put,qX,qY,qZ]
     refine Fst.rest (by kernel_rfl) ?_
     refine wpAny_l (l':=#[true,true,true,true,true,true,true,true,true,false,false]) (by kernel_rfl) ?_
     exact hK0.out _ _ _ _ _ _ _ _ _ _ _ _ _ _ _ (H.out.rgn T.out)
   ·go_simp
    obtain ⟨A8,hA⟩:∃ a,a = v1.heap.size:=⟨_,rfl⟩
    obtain ⟨v12,hv⟩:∃ x,x = v1.alloc BR0:=⟨_,rfl⟩
    replace T:Hid (Svs _ v12 _ _ _ _):=svs8 T.out hv hA
    replace H:Hid (Stg W v12 _ _):=H.out.new8 hv hA
    rw [← hv,← hA]
    clear hv hA
    refine hK _ _ (H.out.cell HA0.out) ?_
    clear hK K
    try simp only [Act.put,qX,qY,qZ]
    refine Fst.s2 3 7 (fun K hK=>?_) (fun K hK=>?_)
    ·go_simp
     refine (svs_do (cl:=5) (c:=Nf.c1) T.out Nf.rx_new (by unfold fits maxLen;decide) Nf.step1.1 Nf.step1.2.1 Nf.step1.2.2.1 Nf.step1.2.2.2).mono ?_
     rintro e v13 ⟨ep,en,ec,up,un,uc,op,on,oc,rfl,hs,hb⟩
     replace T:Hid (Svs _ v13 _ _ _ _):=H.out.keep hs
     replace H:Hid (Stg W v13 _ _):=H.out.call hb
     clear hs hb
     refine hK _ _ (H.out.cell HA0.out) ?_
     clear hK K
     try simp only [Act.put,qX,qY,qZ]
     refine Fst.tp (i:=4) rfl (H.out.cell HA0.out) ?_
     try simp only [Act.put,qX,qY,qZ]
     refine Fst.tp (i:=5) rfl (H.out.cell HA0.out) ?_
     try simp only [Act.put,qX,qY,qZ]
     refine Fst.tp (i:=6) rfl (H.out.cell HA0.out) ?_
     try simp only [Act.put,qX,qY,qZ]
     refine Fst.s1 7 (fun K hK=>?_)
     go_simp
     obtain ⟨A7,hA⟩:∃ a,a = v13.heap.size:=⟨_,rfl⟩
     obtain ⟨v14,hv⟩:∃ x,x = v13.alloc BS0:=⟨_,rfl⟩
     replace T:Hid (Svs _ v14 _ _ _ _):=svs7 T.out hv
     replace H:Hid (Stg W v14 _ _):=H.out.new7 hv hA
     rw [← hv,← hA]
     clear hv hA
     refine hK _ _ (H.out.cell HA0.out) ?_
     clear hK K
     try simp only [Act.put,qX,qY,qZ]
     refine Fst.rest (by kernel_rfl) ?_
     refine wpAny_l (l':=#[true,true,true,true,true,true,true,true,true,false,false]) (by kernel_rfl) ?_
     exact hK0.out _ _ _ _ _ _ _ _ _ _ _ _ _ _ _ (H.out.rgn T.out)
    ·go_simp
     obtain ⟨A7,hA⟩:∃ a,a = v12.heap.size:=⟨_,rfl⟩
     obtain ⟨v15,hv⟩:∃ x,x = v12.alloc BS0:=⟨_,rfl⟩
     replace T:Hid (Svs _ v15 _ _ _ _):=svs7 T.out hv
     replace H:Hid (Stg W v15 _ _):=H.out.new7 hv hA
     rw [← hv,← hA]
     clear hv hA
     refine hK _ _ (H.out.cell HA0.out) ?_
     clear hK K
     try simp only [Act.put,qX,qY,qZ]
     refine Fst.s1 3 (fun K hK=>?_)
     go_simp
     refine (svs_do (cl:=5) (c:=Nf.c1) T.out Nf.rx_new (by unfold fits maxLen;decide) Nf.step1.1 Nf.step1.2.1 Nf.step1.2.2.1 Nf.step1.2.2.2).mono ?_
     rintro e v16 ⟨ep,en,ec,up,un,uc,op,on,oc,rfl,hs,hb⟩
     replace T:Hid (Svs _ v16 _ _ _ _):=H.out.keep hs
     replace H:Hid (Stg W v16 _ _):=H.out.call hb
     clear hs hb
     refine hK _ _ (H.out.cell HA0.out) ?_
     clear hK K
     try simp only [Act.put,qX,qY,qZ]
     refine Fst.tp (i:=4) rfl (H.out.cell HA0.out) ?_
     try simp only [Act.put,qX,qY,qZ]
     refine Fst.tp (i:=5) rfl (H.out.cell HA0.out) ?_
     try simp only [Act.put,qX,qY,qZ]
     refine Fst.tp (i:=6) rfl (H.out.cell HA0.out) ?_
     try simp only [Act.put,qX,qY,qZ]
     refine Fst.rest (by kernel_rfl) ?_
     refine wpAny_l (l':=#[true,true,true,true,true,true,true,true,true,false,false]) (by kernel_rfl) ?_
     exact hK0.out _ _ _ _ _ _ _ _ _ _ _ _ _ _ _ (H.out.rgn T.out)
  ·go_simp
   obtain ⟨A7,hA⟩:∃ a,a = W.heap.size:=⟨_,rfl⟩
   obtain ⟨v17,hv⟩:∃ x,x = (W.alloc BS0).drew:=⟨_,rfl⟩
   replace H:Hid (Stg W v17 _ _):=H.out.new7 (by rw [hv];rfl) hA
   rw [← hv,← hA]
   clear hv hA
   refine hK _ _ (H.out.cell HA0.out) ?_
   clear hK K
   try simp only [Act.put,qX,qY,qZ]
   refine Fst.s2 0 8 (fun K hK=>?_) (fun K hK=>?_)
   ·go_simp
    refine (svs_new _).mono ?_
    rintro e v18 ⟨ap,n,cp,rfl,hs,hb⟩
    have T:Hid (Svs _ v18 _ _ _ _):=H.out.fresh hs
    replace H:Hid (Stg W v18 _ _):=H.out.call hb
    clear hs hb
    refine hK _ _ (H.out.cell HA0.out) ?_
    clear hK K
    try simp only [Act.put,qX,qY,qZ]
    refine Fst.s2 3 8 (fun K hK=>?_) (fun K hK=>?_)
    ·go_simp
     refine (svs_do (cl:=5) (c:=Nf.c1) T.out Nf.rx_new (by unfold fits maxLen;decide) Nf.step1.1 Nf.step1.2.1 Nf.step1.2.2.1 Nf.step1.2.2.2).mono ?_
     rintro e v19 ⟨ep,en,ec,up,un,uc,op,on,oc,rfl,hs,hb⟩
     replace T:Hid (Svs _ v19 _ _ _ _):=H.out.keep hs
     replace H:Hid (Stg W v19 _ _):=H.out.call hb
     clear hs hb
     refine hK _ _ (H.out.cell HA0.out) ?_
     clear hK K
     try simp only [Act.put,qX,qY,qZ]
     refine Fst.tp (i:=4) rfl (H.out.cell HA0.out) ?_
     try simp only [Act.put,qX,qY,qZ]
     refine Fst.tp (i:=5) rfl (H.out.cell HA0.out) ?_
     try simp only [Act.put,qX,qY,qZ]
     refine Fst.tp (i:=6) rfl (H.out.cell HA0.out) ?_
     try simp only [Act.put,qX,qY,qZ]
     refine Fst.s1 8 (fun K hK=>?_)
     go_simp
     obtain ⟨A8,hA⟩:∃ a,a = v19.heap.size:=⟨_,rfl⟩
     obtain ⟨v20,hv⟩:∃ x,x = v19.alloc BR0:=⟨_,rfl⟩
     replace T:Hid (Svs _ v20 _ _ _ _):=svs8 T.out hv hA
     replace H:Hid (Stg W v20 _ _):=H.out.new8 hv hA
     rw [← hv,← hA]
     clear hv hA
     refine hK _ _ (H.out.cell HA0.out) ?_
     clear hK K
     try simp only [Act.put,qX,qY,qZ]
     refine Fst.rest (by kernel_rfl) ?_
     refine wpAny_l (l':=#[true,true,true,true,true,true,true,true,true,false,false]) (by kernel_rfl) ?_
     exact hK0.out _ _ _ _ _ _ _ _ _ _ _ _ _ _ _ (H.out.rgn T.out)
    ·go_simp
     obtain ⟨A8,hA⟩:∃ a,a = v18.heap.size:=⟨_,rfl⟩
     obtain ⟨v21,hv⟩:∃ x,x = v18.alloc BR0:=⟨_,rfl⟩
     replace T:Hid (Svs _ v21 _ _ _ _):=svs8 T.out hv hA
     replace H:Hid (Stg W v21 _ _):=H.out.new8 hv hA
     rw [← hv,← hA]
     clear hv hA
     refine hK _ _ (H.out.cell HA0.out) ?_
     clear hK K
     try simp only [Act.put,qX,qY,qZ]
     refine Fst.s1 3 (fun K hK=>?_)
     go_simp
     refine (svs_do (cl:=5) (c:=Nf.c1) T.out Nf.rx_new (by unfold fits maxLen;decide) Nf.step1.1 Nf.step1.2.1 Nf.step1.2.2.1 Nf.step1.2.2.2).mono ?_
     rintro e v22 ⟨ep,en,ec,up,un,uc,op,on,oc,rfl,hs,hb⟩
     replace T:Hid (Svs _ v22 _ _ _ _):=H.out.keep hs
     replace H:Hid (Stg W v22 _ _):=H.out.call hb
     clear hs hb
     refine hK _ _ (H.out.cell HA0.out) ?_
     clear hK K
     try simp only [Act.put,qX,qY,qZ]
     refine Fst.tp (i:=4) rfl (H.out.cell HA0.out) ?_
     try simp only [Act.put,qX,qY,qZ]
     refine Fst.tp (i:=5) rfl (H.out.cell HA0.out) ?_
     try simp only [Act.put,qX,qY,qZ]
     refine Fst.tp (i:=6) rfl (H.out.cell HA0.out) ?_
     try simp only [Act.put,qX,qY,qZ]
     refine Fst.rest (by kernel_rfl) ?_
     refine wpAny_l (l':=#[true,true,true,true,true,true,true,true,true,false,false]) (by kernel_rfl) ?_
     exact hK0.out _ _ _ _ _ _ _ _ _ _ _ _ _ _ _ (H.out.rgn T.out)
   ·go_simp
    obtain ⟨A8,hA⟩:∃ a,a = v17.heap.size:=⟨_,rfl⟩
    obtain ⟨v23,hv⟩:∃ x,x = v17.alloc BR0:=⟨_,rfl⟩
    replace H:Hid (Stg W v23 _ _):=H.out.new8 hv hA
    rw [← hv,← hA]
    clear hv hA
    refine hK _ _ (H.out.cell HA0.out) ?_
    clear hK K
    try simp only [Act.put,qX,qY,qZ]
    refine Fst.s1 0 (fun K hK=>?_)
    go_simp
    refine (svs_new _).mono ?_
    rintro e v24 ⟨ap,n,cp,rfl,hs,hb⟩
    have T:Hid (Svs _ v24 _ _ _ _):=H.out.fresh hs
    replace H:Hid (Stg W v24 _ _):=H.out.call hb
    clear hs hb
    refine hK _ _ (H.out.cell HA0.out) ?_
    clear hK K
    try simp only [Act.put,qX,qY,qZ]
    refine Fst.s1 3 (fun K hK=>?_)
    go_simp
    refine (svs_do (cl:=5) (c:=Nf.c1) T.out Nf.rx_new (by unfold fits maxLen;decide) Nf.step1.1 Nf.step1.2.1 Nf.step1.2.2.1 Nf.step1.2.2.2).mono ?_
    rintro e v25 ⟨ep,en,ec,up,un,uc,op,on,oc,rfl,hs,hb⟩
    replace T:Hid (Svs _ v25 _ _ _ _):=H.out.keep hs
    replace H:Hid (Stg W v25 _ _):=H.out.call hb
    clear hs hb
    refine hK _ _ (H.out.cell HA0.out) ?_
    clear hK K
    try simp only [Act.put,qX,qY,qZ]
    refine Fst.tp (i:=4) rfl (H.out.cell HA0.out) ?_
    try simp only [Act.put,qX,qY,qZ]
    refine Fst.tp (i:=5) rfl (H.out.cell HA0.out) ?_
    try simp only [Act.put,qX,qY,qZ]
    refine Fst.tp (i:=6) rfl (H.out.cell HA0.out) ?_
    try simp only [Act.put,qX,qY,qZ]
    refine Fst.rest (by kernel_rfl) ?_
    refine wpAny_l (l':=#[true,true,true,true,true,true,true,true,true,false,false]) (by kernel_rfl) ?_
    exact hK0.out _ _ _ _ _ _ _ _ _ _ _ _ _ _ _ (H.out.rgn T.out)
  ·go_simp
   obtain ⟨A8,hA⟩:∃ a,a = W.heap.size:=⟨_,rfl⟩
   obtain ⟨v26,hv⟩:∃ x,x = (W.alloc BR0).drew:=⟨_,rfl⟩
   replace H:Hid (Stg W v26 _ _):=H.out.new8 (by rw [hv];rfl) hA
   rw [← hv,← hA]
   clear hv hA
   refine hK _ _ (H.out.cell HA0.out) ?_
   clear hK K
   try simp only [Act.put,qX,qY,qZ]
   refine Fst.s2 0 7 (fun K hK=>?_) (fun K hK=>?_)
   ·go_simp
    refine (svs_new _).mono ?_
    rintro e v27 ⟨ap,n,cp,rfl,hs,hb⟩
    have T:Hid (Svs _ v27 _ _ _ _):=H.out.fresh hs
    replace H:Hid (Stg W v27 _ _):=H.out.call hb
    clear hs hb
    refine hK _ _ (H.out.cell HA0.out) ?_
    clear hK K
    try simp only [Act.put,qX,qY,qZ]
    refine Fst.s2 3 7 (fun K hK=>?_) (fun K hK=>?_)
    ·go_simp
     refine (svs_do (cl:=5) (c:=Nf.c1) T.out Nf.rx_new (by unfold fits maxLen;decide) Nf.step1.1 Nf.step1.2.1 Nf.step1.2.2.1 Nf.step1.2.2.2).mono ?_
     rintro e v28 ⟨ep,en,ec,up,un,uc,op,on,oc,rfl,hs,hb⟩
     replace T:Hid (Svs _ v28 _ _ _ _):=H.out.keep hs
     replace H:Hid (Stg W v28 _ _):=H.out.call hb
     clear hs hb
     refine hK _ _ (H.out.cell HA0.out) ?_
     clear hK K
     try simp only [Act.put,qX,qY,qZ]
     refine Fst.tp (i:=4) rfl (H.out.cell HA0.out) ?_
     try simp only [Act.put,qX,qY,qZ]
     refine Fst.tp (i:=5) rfl (H.out.cell HA0.out) ?_
     try simp only [Act.put,qX,qY,qZ]
     refine Fst.tp (i:=6) rfl (H.out.cell HA0.out) ?_
     try simp only [Act.put,qX,qY,qZ]
     refine Fst.s1 7 (fun K hK=>?_)
     go_simp
     obtain ⟨A7,hA⟩:∃ a,a = v28.heap.size:=⟨_,rfl⟩
     obtain ⟨v29,hv⟩:∃ x,x = v28.alloc BS0:=⟨_,rfl⟩
     replace T:Hid (Svs _ v29 _ _ _ _):=svs7 T.out hv
     replace H:Hid (Stg W v29 _ _):=H.out.new7 hv hA
     rw [← hv,← hA]
     clear hv hA
     refine hK _ _ (H.out.cell HA0.out) ?_
     clear hK K
     try simp only [Act.put,qX,qY,qZ]
     refine Fst.rest (by kernel_rfl) ?_
     refine wpAny_l (l':=#[true,true,true,true,true,true,true,true,true,false,false]) (by kernel_rfl) ?_
     exact hK0.out _ _ _ _ _ _ _ _ _ _ _ _ _ _ _ (H.out.rgn T.out)
    ·go_simp
     obtain ⟨A7,hA⟩:∃ a,a = v27.heap.size:=⟨_,rfl⟩
     obtain ⟨v30,hv⟩:∃ x,x = v27.alloc BS0:=⟨_,rfl⟩
     replace T:Hid (Svs _ v30 _ _ _ _):=svs7 T.out hv
     replace H:Hid (Stg W v30 _ _):=H.out.new7 hv hA
     rw [← hv,← hA]
     clear hv hA
     refine hK _ _ (H.out.cell HA0.out) ?_
     clear hK K
     try simp only [Act.put,qX,qY,qZ]
     refine Fst.s1 3 (fun K hK=>?_)
     go_simp
     refine (svs_do (cl:=5) (c:=Nf.c1) T.out Nf.rx_new (by unfold fits maxLen;decide) Nf.step1.1 Nf.step1.2.1 Nf.step1.2.2.1 Nf.step1.2.2.2).mono ?_
     rintro e v31 ⟨ep,en,ec,up,un,uc,op,on,oc,rfl,hs,hb⟩
     replace T:Hid (Svs _ v31 _ _ _ _):=H.out.keep hs
     replace H:Hid (Stg W v31 _ _):=H.out.call hb
     clear hs hb
     refine hK _ _ (H.out.cell HA0.out) ?_
     clear hK K
     try simp only [Act.put,qX,qY,qZ]
     refine Fst.tp (i:=4) rfl (H.out.cell HA0.out) ?_
     try simp only [Act.put,qX,qY,qZ]
     refine Fst.tp (i:=5) rfl (H.out.cell HA0.out) ?_
     try simp only [Act.put,qX,qY,qZ]
     refine Fst.tp (i:=6) rfl (H.out.cell HA0.out) ?_
     try simp only [Act.put,qX,qY,qZ]
     refine Fst.rest (by kernel_rfl) ?_
     refine wpAny_l (l':=#[true,true,true,true,true,true,true,true,true,false,false]) (by kernel_rfl) ?_
     exact hK0.out _ _ _ _ _ _ _ _ _ _ _ _ _ _ _ (H.out.rgn T.out)
   ·go_simp
    obtain ⟨A7,hA⟩:∃ a,a = v26.heap.size:=⟨_,rfl⟩
    obtain ⟨v32,hv⟩:∃ x,x = v26.alloc BS0:=⟨_,rfl⟩
    replace H:Hid (Stg W v32 _ _):=H.out.new7 hv hA
    rw [← hv,← hA]
    clear hv hA
    refine hK _ _ (H.out.cell HA0.out) ?_
    clear hK K
    try simp only [Act.put,qX,qY,qZ]
    refine Fst.s1 0 (fun K hK=>?_)
    go_simp
    refine (svs_new _).mono ?_
    rintro e v33 ⟨ap,n,cp,rfl,hs,hb⟩
    have T:Hid (Svs _ v33 _ _ _ _):=H.out.fresh hs
    replace H:Hid (Stg W v33 _ _):=H.out.call hb
    clear hs hb
    refine hK _ _ (H.out.cell HA0.out) ?_
    clear hK K
    try simp only [Act.put,qX,qY,qZ]
    refine Fst.s1 3 (fun K hK=>?_)
    go_simp
    refine (svs_do (cl:=5) (c:=Nf.c1) T.out Nf.rx_new (by unfold fits maxLen;decide) Nf.step1.1 Nf.step1.2.1 Nf.step1.2.2.1 Nf.step1.2.2.2).mono ?_
    rintro e v34 ⟨ep,en,ec,up,un,uc,op,on,oc,rfl,hs,hb⟩
    replace T:Hid (Svs _ v34 _ _ _ _):=H.out.keep hs
    replace H:Hid (Stg W v34 _ _):=H.out.call hb
    clear hs hb
    refine hK _ _ (H.out.cell HA0.out) ?_
    clear hK K
    try simp only [Act.put,qX,qY,qZ]
    refine Fst.tp (i:=4) rfl (H.out.cell HA0.out) ?_
    try simp only [Act.put,qX,qY,qZ]
    refine Fst.tp (i:=5) rfl (H.out.cell HA0.out) ?_
    try simp only [Act.put,qX,qY,qZ]
    refine Fst.tp (i:=6) rfl (H.out.cell HA0.out) ?_
    try simp only [Act.put,qX,qY,qZ]
    refine Fst.rest (by kernel_rfl) ?_
    refine wpAny_l (l':=#[true,true,true,true,true,true,true,true,true,false,false]) (by kernel_rfl) ?_
    exact hK0.out _ _ _ _ _ _ _ _ _ _ _ _ _ _ _ (H.out.rgn T.out)
 intro ap n cp ep en ec up un uc op on oc A7 A8 U HR
 obtain ⟨f0,f1,f2,f3⟩:=st_of HR.out.h7
 have ff:=fr_at HR.out.h7
 obtain ⟨g0,g1,g2,g3,g4,g5,g6,g7,g8,g9⟩:=rp_of HR.out.h8
 have gg:=fr_at HR.out.h8
 have h78:=HR.out.ne
 refine wpAny_ready (rs:=[9]) (by kernel_rfl) (by simp) ?_
 refine AllReady.cons rfl (fun K hK=>?_) AllReady.nil
 go_simp
 (try go_wp2_with fail)
 first | (refine hK _ _ ?_;clear hK K) | skip
 try simp only [Act.put,qX,qY,qZ]
 refine wpAny_ready (rs:=[10]) (by kernel_rfl) (by simp) ?_
 refine AllReady.cons rfl (fun K hK=>?_) AllReady.nil
 go_simp
 (try go_wp2_with fail)
 first | (refine hK _ _ ?_;clear hK K) | skip
 try simp only [Act.put,qX,qY,qZ]
 refine wpAny_done (by kernel_rfl) ?_ _
 obtain ⟨U2,hU2⟩:∃ U2,U2 = ((((((((((((((U.setCell ⟨A7,0,none⟩ (.slice up un uc)).setCell ⟨A7,1,none⟩ (.slice op on oc)).setCell ⟨A7,2,none⟩ (.slice none 0 0)).setCell ⟨A7,3,none⟩ (.int .i64 1)).setCell ⟨A8,0,none⟩ (.int .i64 0)).setCell ⟨A8,1,none⟩ (.int .i64 1)).setCell ⟨A8,2,none⟩ (.int .i64 1)).setCell ⟨A8,3,none⟩ (.int .i64 1)).setCell ⟨A8,4,none⟩ (.int .i64 1)).setCell ⟨A8,5,none⟩ (.int .i64 0)).setCell ⟨A8,6,none⟩ (.int .i64 1)).setCell ⟨A8,7,none⟩ (.string ⟨#[]⟩)).setCell ⟨A8,8,none⟩ (.slice ep en ec)).setCell ⟨A8,9,none⟩ (.int .i64 0)):=⟨_,rfl⟩
 rw [← hU2]
 have H:Hid (Big W U2 A7 (.slice up un uc) (.slice op on oc) 1 (.slice up un uc) (.slice op on oc) _ [] [(w.heap.size,BH2 0 1),(A8,BRl R1 (.slice ep en ec))]):=HR.out.big hU2 hwW HA0.out
 clear hU2 HR f0 f1 f2 f3 ff g0 g1 g2 g3 g4 g5 g6 g7 g8 g9 gg h78
 obtain ⟨t0,t1,t2,t3⟩:=st_of H.out.st
 have tf:=fr_at H.out.st
 have tl:=(qL H.out.st)
 obtain ⟨k0,kn,kl⟩:=H.out.at 0 rfl
 have k1:=cell_at k0 1
 replace k0:=cell_at k0 0
 simp at k0 k1
 obtain ⟨g0,gn,gl⟩:=H.out.at 1 rfl
 obtain ⟨g0,g1,g2,g3,g4,g5,g6,g7,g8,g9⟩:=rp_of g0
 go_wp2_with fail
 refine (sv_do (cl:=5) (c:=Nf.c2) H.out.sv (Nf.right_rx.1 Nf.right_1) (by unfold fits maxLen;decide) Nf.step2.1 Nf.step2.2.1 Nf.step2.2.2.1 Nf.step2.2.2.2).mono ?_
 rintro e w3 ⟨ep3,en3,ec3,up3,un3,uc3,op3,on3,oc3,rfl,hs,-,hb⟩
 replace H:Hid (Big W w3 A7 _ _ _ _ _ _ _ _):=H.out.call hb hs
 clear t0 t1 t2 t3 tf tl k0 k1 kn kl g0 g1 g2 g3 g4 g5 g6 g7 g8 g9 gn gl hs hb
 obtain ⟨t0,t1,t2,t3⟩:=st_of H.out.st
 have tf:=fr_at H.out.st
 have tl:=(qL H.out.st)
 obtain ⟨k0,kn,kl⟩:=H.out.at 0 rfl
 have k1:=cell_at k0 1
 replace k0:=cell_at k0 0
 simp at k0 k1
 obtain ⟨g0,gn,gl⟩:=H.out.at 1 rfl
 obtain ⟨g0,g1,g2,g3,g4,g5,g6,g7,g8,g9⟩:=rp_of g0
 go_wp2_with fail
 obtain ⟨U3,hU⟩:∃ U,U = ((((w3.setCell ⟨A7,0,none⟩ (.slice up3 un3 uc3)).setCell ⟨A7,1,none⟩ (.slice op3 on3 oc3)).setCell ⟨A7,2,none⟩ (.slice none 0 0)).setCell ⟨A7,3,none⟩ (.int .i64 2)).alloc (BRl ((⟨0,0,0,0,0,0,0,⟨#[]⟩,[],0⟩:Nf.Rpl)) (.slice ep3 en3 ec3)):=⟨_,rfl⟩
 obtain ⟨B3,hA⟩:∃ a,a = w3.heap.size:=⟨_,rfl⟩
 replace H:Hid (Big W U3 A7 _ _ 2 _ _ _ _ _):=H.out.store (o:=BRl ((⟨0,0,0,0,0,0,0,⟨#[]⟩,[],0⟩:Nf.Rpl)) (.slice ep3 en3 ec3)) hU hA
 rw [← hU,← hA]
 clear t0 t1 t2 t3 tf tl k0 k1 kn kl g0 g1 g2 g3 g4 g5 g6 g7 g8 g9 gn gl hU hA
 obtain ⟨t0,t1,t2,t3⟩:=st_of H.out.st
 have tf:=fr_at H.out.st
 have tl:=(qL H.out.st)
 obtain ⟨k0,kn,kl⟩:=H.out.at 0 rfl
 have k1:=cell_at k0 1
 replace k0:=cell_at k0 0
 simp at k0 k1
 obtain ⟨g0,gn,gl⟩:=H.out.at 1 rfl
 obtain ⟨g0,g1,g2,g3,g4,g5,g6,g7,g8,g9⟩:=rp_of g0
 refine (sv_do (cl:=5) (c:=Nf.c3) H.out.sv (Nf.right_rx.1 Nf.right_2) (by unfold fits maxLen;decide) Nf.step3.1 Nf.step3.2.1 Nf.step3.2.2.1 Nf.step3.2.2.2).mono ?_
 rintro e w4 ⟨ep4,en4,ec4,up4,un4,uc4,op4,on4,oc4,rfl,hs,-,hb⟩
 replace H:Hid (Big W w4 A7 _ _ _ _ _ _ _ _):=H.out.call hb hs
 clear t0 t1 t2 t3 tf tl k0 k1 kn kl g0 g1 g2 g3 g4 g5 g6 g7 g8 g9 gn gl hs hb
 obtain ⟨t0,t1,t2,t3⟩:=st_of H.out.st
 have tf:=fr_at H.out.st
 have tl:=(qL H.out.st)
 obtain ⟨k0,kn,kl⟩:=H.out.at 0 rfl
 have k1:=cell_at k0 1
 replace k0:=cell_at k0 0
 simp at k0 k1
 obtain ⟨g0,gn,gl⟩:=H.out.at 1 rfl
 obtain ⟨g0,g1,g2,g3,g4,g5,g6,g7,g8,g9⟩:=rp_of g0
 go_wp2_with fail
 obtain ⟨U4,hU⟩:∃ U,U = ((((w4.setCell ⟨A7,0,none⟩ (.slice up4 un4 uc4)).setCell ⟨A7,1,none⟩ (.slice op4 on4 oc4)).setCell ⟨A7,2,none⟩ (.slice none 0 0)).setCell ⟨A7,3,none⟩ (.int .i64 3)).alloc (BRl (Nf.bad 0) (.slice ep4 en4 ec4)):=⟨_,rfl⟩
 obtain ⟨B4,hA⟩:∃ a,a = w4.heap.size:=⟨_,rfl⟩
 replace H:Hid (Big W U4 A7 _ _ 3 _ _ _ _ _):=H.out.store (o:=BRl (Nf.bad 0) (.slice ep4 en4 ec4)) hU hA
 rw [← hU,← hA]
 clear t0 t1 t2 t3 tf tl k0 k1 kn kl g0 g1 g2 g3 g4 g5 g6 g7 g8 g9 gn gl hU hA
 obtain ⟨t0,t1,t2,t3⟩:=st_of H.out.st
 have tf:=fr_at H.out.st
 have tl:=(qL H.out.st)
 obtain ⟨k0,kn,kl⟩:=H.out.at 0 rfl
 have k1:=cell_at k0 1
 replace k0:=cell_at k0 0
 simp at k0 k1
 obtain ⟨g0,gn,gl⟩:=H.out.at 1 rfl
 obtain ⟨g0,g1,g2,g3,g4,g5,g6,g7,g8,g9⟩:=rp_of g0
 refine (sv_do (cl:=5) (c:=Nf.c4) H.out.sv (Nf.right_rx.1 Nf.right_3) (by unfold fits maxLen;decide) Nf.step4.1 Nf.step4.2.1 Nf.step4.2.2.1 Nf.step4.2.2.2).mono ?_
 rintro e w5 ⟨ep5,en5,ec5,up5,un5,uc5,op5,on5,oc5,rfl,hs,-,hb⟩
 replace H:Hid (Big W w5 A7 _ _ _ _ _ _ _ _):=H.out.call hb hs
 clear t0 t1 t2 t3 tf tl k0 k1 kn kl g0 g1 g2 g3 g4 g5 g6 g7 g8 g9 gn gl hs hb
 obtain ⟨t0,t1,t2,t3⟩:=st_of H.out.st
 have tf:=fr_at H.out.st
 have tl:=(qL H.out.st)
 obtain ⟨k0,kn,kl⟩:=H.out.at 0 rfl
 have k1:=cell_at k0 1
 replace k0:=cell_at k0 0
 simp at k0 k1
 obtain ⟨g0,gn,gl⟩:=H.out.at 1 rfl
 obtain ⟨g0,g1,g2,g3,g4,g5,g6,g7,g8,g9⟩:=rp_of g0
 go_wp2_with fail
 obtain ⟨U5,hU⟩:∃ U,U = ((((w5.setCell ⟨A7,0,none⟩ (.slice up5 un5 uc5)).setCell ⟨A7,1,none⟩ (.slice op5 on5 oc5)).setCell ⟨A7,2,none⟩ (.slice none 0 0)).setCell ⟨A7,3,none⟩ (.int .i64 4)).alloc (BRl ((⟨0,0,0,1,0,1,4,⟨#[]⟩,[],0⟩:Nf.Rpl)) (.slice ep5 en5 ec5)):=⟨_,rfl⟩
 obtain ⟨B5,hA⟩:∃ a,a = w5.heap.size:=⟨_,rfl⟩
 replace H:Hid (Big W U5 A7 _ _ 4 _ _ _ _ _):=H.out.store (o:=BRl ((⟨0,0,0,1,0,1,4,⟨#[]⟩,[],0⟩:Nf.Rpl)) (.slice ep5 en5 ec5)) hU hA
 rw [← hU,← hA]
 clear t0 t1 t2 t3 tf tl k0 k1 kn kl g0 g1 g2 g3 g4 g5 g6 g7 g8 g9 gn gl hU hA
 obtain ⟨t0,t1,t2,t3⟩:=st_of H.out.st
 have tf:=fr_at H.out.st
 have tl:=(qL H.out.st)
 obtain ⟨k0,kn,kl⟩:=H.out.at 0 rfl
 have k1:=cell_at k0 1
 replace k0:=cell_at k0 0
 simp at k0 k1
 obtain ⟨g0,gn,gl⟩:=H.out.at 1 rfl
 obtain ⟨g0,g1,g2,g3,g4,g5,g6,g7,g8,g9⟩:=rp_of g0
 refine (sv_do (cl:=5) (c:=Nf.c5) H.out.sv (Nf.right_rx.1 Nf.right_4) (by unfold fits maxLen;decide) Nf.step5.1 Nf.step5.2.1 Nf.step5.2.2.1 Nf.step5.2.2.2).mono ?_
 rintro e w6 ⟨ep6,en6,ec6,up6,un6,uc6,op6,on6,oc6,rfl,hs,-,hb⟩
 replace H:Hid (Big W w6 A7 _ _ _ _ _ _ _ _):=H.out.call hb hs
 clear t0 t1 t2 t3 tf tl k0 k1 kn kl g0 g1 g2 g3 g4 g5 g6 g7 g8 g9 gn gl hs hb
 obtain ⟨t0,t1,t2,t3⟩:=st_of H.out.st
 have tf:=fr_at H.out.st
 have tl:=(qL H.out.st)
 obtain ⟨k0,kn,kl⟩:=H.out.at 0 rfl
 have k1:=cell_at k0 1
 replace k0:=cell_at k0 0
 simp at k0 k1
 obtain ⟨g0,gn,gl⟩:=H.out.at 1 rfl
 obtain ⟨g0,g1,g2,g3,g4,g5,g6,g7,g8,g9⟩:=rp_of g0
 obtain ⟨R6,hR6⟩:∃ R,Nf.doR Nf.F5 [] 5 5 Nf.c6 = R:=⟨_,rfl⟩
 have HR6:Hid (Nf.doR Nf.F5 [] 5 5 Nf.c6 = R6):=hR6
 clear hR6
 go_wp2_with fail
 obtain ⟨U6,hU⟩:∃ U,U = ((((w6.setCell ⟨A7,0,none⟩ (.slice up6 un6 uc6)).setCell ⟨A7,1,none⟩ (.slice op6 on6 oc6)).setCell ⟨A7,2,none⟩ (.slice none 0 0)).setCell ⟨A7,3,none⟩ (.int .i64 5)).alloc (BRl (Nf.bad 0) (.slice ep6 en6 ec6)):=⟨_,rfl⟩
 obtain ⟨B6,hA⟩:∃ a,a = w6.heap.size:=⟨_,rfl⟩
 replace H:Hid (Big W U6 A7 _ _ 5 _ _ _ _ _):=H.out.store (o:=BRl (Nf.bad 0) (.slice ep6 en6 ec6)) hU hA
 rw [← hU,← hA]
 clear t0 t1 t2 t3 tf tl k0 k1 kn kl g0 g1 g2 g3 g4 g5 g6 g7 g8 g9 gn gl hU hA
 obtain ⟨t0,t1,t2,t3⟩:=st_of H.out.st
 have tf:=fr_at H.out.st
 have tl:=(qL H.out.st)
 obtain ⟨k0,kn,kl⟩:=H.out.at 0 rfl
 have k1:=cell_at k0 1
 replace k0:=cell_at k0 0
 simp at k0 k1
 obtain ⟨g0,gn,gl⟩:=H.out.at 1 rfl
 obtain ⟨g0,g1,g2,g3,g4,g5,g6,g7,g8,g9⟩:=rp_of g0
 refine (sv_do (cl:=5) (c:=Nf.c6) H.out.sv (Nf.right_rx.1 Nf.right_5) (by unfold fits maxLen;decide) HR6.out rfl rfl Nf.step6.2).mono ?_
 rintro e w7 ⟨ep7,en7,ec7,up7,un7,uc7,op7,on7,oc7,rfl,hs,-,hb⟩
 replace H:Hid (Big W w7 A7 _ _ _ _ _ _ _ _):=H.out.call hb hs
 clear t0 t1 t2 t3 tf tl k0 k1 kn kl g0 g1 g2 g3 g4 g5 g6 g7 g8 g9 gn gl hs hb
 obtain ⟨t0,t1,t2,t3⟩:=st_of H.out.st
 have tf:=fr_at H.out.st
 have tl:=(qL H.out.st)
 obtain ⟨k0,kn,kl⟩:=H.out.at 0 rfl
 have k1:=cell_at k0 1
 replace k0:=cell_at k0 0
 simp at k0 k1
 obtain ⟨g0,gn,gl⟩:=H.out.at 1 rfl
 obtain ⟨g0,g1,g2,g3,g4,g5,g6,g7,g8,g9⟩:=rp_of g0
 obtain ⟨z2,zn2,zl2⟩:=H.out.at 2 rfl
 replace z2:=cell_at z2 0
 simp at z2
 obtain ⟨z3,zn3,zl3⟩:=H.out.at 3 rfl
 replace z3:=cell_at z3 0
 simp at z3
 obtain ⟨z4,zn4,zl4⟩:=H.out.at 4 rfl
 replace z4:=cell_at z4 0
 simp at z4
 obtain ⟨z5,zn5,zl5⟩:=H.out.at 5 rfl
 replace z5:=cell_at z5 0
 simp at z5
 have h6:R6.e = 401:=by rw [← HR6.out];exact Nf.step6.1
 have HZ:Hid (Below w.heap.size w _):=HB0.out.trans ((H.out.store (D':=6) (o:=BRl R6 (.slice ep7 en7 ec7)) rfl rfl).bl.mono HB0.out.size)
 go_wp2
 go_ret
 refine ⟨rfl,?_⟩
 rw [← h6]
 exact HZ.out
end Go.Proofs.YtneojimodomohaaGreat
