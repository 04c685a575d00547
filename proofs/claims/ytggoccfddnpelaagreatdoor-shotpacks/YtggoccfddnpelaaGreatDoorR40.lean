/- OpenT, OpenS, Law, ZOpS, as one. -/
import Derived.SizedLaws
import Derived.ChangeMaps5
import Derived.Test.YtggoccfddnpelaaGreatDoorR39
namespace Go.Proofs.YtggoccfddnpelaaGreatDoor
open Go.ChangeShapes Go.WideShapes Go.ChangeAt Go.RowKit Go.Deep It
set_option maxRecDepth 100000
/-- A slice that came in, element by element. -/
theorem open_row {α : Type} [Inhabited α] (E : Enc α) {H : Type} {enc : TypeId × Value → H} {P : Program} {w : World} {t e : TypeId} {fuel : Nat} {v : Value} {dx : DataW H × List MemPlace} (ht : P.underlying t = some (.slice e)) (ce : P.cellsOf e = E.sz) (hsz : 0 < E.sz) {Q : α → DataW H → Prop}
    (elem:∀ n cs d pl,cs.length = E.sz->DataW.trod enc P w 0 (fun _=>true) true n e cs = some (d,pl)->∃ x,cs = E.cells x/\Q x d)
    (hf:DataW.trod enc P w 0 (fun _=>true) true fuel t [v] = some dx) :
    ∃ l:List α,AtW E w v l/\((dx.1 = .nil/\l = [])∨∃ es sp:List (DataW H),dx.1 = .slice es sp/\es.length = l.length/\∀ (i:Nat) (x:α),l[i]? = some x->∃ d,es[i]? = some d/\Q x d):=by
  rcases open_slice ht hf with ⟨hcs,hx⟩ | ⟨a,len,cap,m,n,D,Pl,hcs,hb,hl,hm,hmm,hd,hx⟩
  · simp at hcs
    subst hcs
    exact ⟨[],.inl ⟨_,_,rfl,rfl⟩,.inl ⟨by rw [hx],rfl⟩⟩
  · simp at hcs
    subst hcs
    have hlm:len<=m:=by rw [hmm];split <;> omega
    have each:∀ i,i < len->∃ x:α,(∀ j u,(E.cells x)[j]? = some u->w.cell? ((a.add (i * E.sz)).add j) = some u)/\Q x (D i):=by
      intro i hi
      obtain ⟨cs',h1,h2⟩:=hx i (by omega)
      rw [ce] at h1
      obtain ⟨_,hlen,hcell⟩:=World.cells?_some h1
      obtain ⟨x,rfl,hq⟩:=elem _ _ _ _ hlen h2
      refine ⟨x,fun j u hj=>?_,hq⟩
      have hj8:j < E.sz:=by have:=(List.getElem?_eq_some_iff.1 hj).1;rwa [E.len] at this
      have:=hcell j hj8
      rw [this]
      exact hj
    obtain ⟨q,hq⟩:=choose_lt each
    have hlr:((List.range len).map q).length = len:=by simp
    refine ⟨(List.range len).map q,?_,.inr ⟨_,_,by rw [hd],by simp,fun i x hi=>?_⟩⟩
    · by_cases hp : 0 < len
      · obtain ⟨b, off, spot⟩ := a
        obtain ⟨u0,hu0⟩:∃ u,(E.cells (q 0))[0]? = some u:=⟨_,List.getElem?_eq_getElem (by rw [E.len];exact hsz)⟩
        have hc0:=(hq 0 hp).1 0 u0 hu0
        have hspot:spot = none:=by simpa [Addr.add] using World.cell?_spot hc0
        subst hspot
        rw [WideShapes.add_plain,WideShapes.add_plain] at hc0
        have key:∀ i,i < len->∀ j u,(E.cells (q i))[j]? = some u->w.cell? ⟨b,off + (i * E.sz + j),none⟩ = some u:=fun i hi j u hj=>by
          have h0:=(hq i hi).1 j u hj
          rw [WideShapes.add_plain,WideShapes.add_plain,Nat.add_assoc] at h0
          exact h0
        refine .inr ⟨b,off,cap,by rw [hlr],trivial,World.block_lt_of_cell? _ _ hc0,by omega,by omega,hm,fun j u hj=>?_⟩
        have hlt:j < (E.flat ((List.range len).map q)).length:=(List.getElem?_eq_some_iff.1 hj).1
        rw [E.flat_length,hlr] at hlt
        have hi:j / E.sz < len:=(Nat.div_lt_iff_lt_mul hsz).2 hlt
        have hgi:((List.range len).map q)[j / E.sz]? = some (q (j / E.sz)):=by simp [hi]
        have hmod:j % E.sz < E.sz:=Nat.mod_lt _ hsz
        obtain ⟨u1,hu1⟩:∃ u,(E.cells (q (j / E.sz)))[j % E.sz]? = some u:=⟨_,List.getElem?_eq_getElem (by rw [E.len];exact hmod)⟩
        have hfl:=E.flat_at _ _ _ hgi _ _ hu1
        have hdm:j / E.sz * E.sz + j % E.sz = j:=by rw [Nat.mul_comm];exact Nat.div_add_mod _ _
        have h3:=key _ hi _ _ hu1
        rw [hdm] at hfl h3
        rw [hfl] at hj
        cases hj
        exact h3
      · have : len = 0 := by omega
        subst this
        exact .inl ⟨_,_,rfl,rfl⟩
    · have hi' : i < len := by have := (List.getElem?_eq_some_iff.1 hi).1; rwa [hlr] at this
      have hxq:x = q i:=by simpa [hi'] using hi.symm
      subst hxq
      exact ⟨D i,by simp [hi'],(hq i hi').2⟩
def len2 {H:Type} (y:DataW H) (n:Nat):Prop:=n = 0∨∃ es sp,y = .slice es sp/\es.length = n
theorem open_runs {H:Type} {enc:TypeId × Value->H} {w:World} {fuel:Nat} {v:Value} {dx:DataW H × List MemPlace} (hf:DataW.trod enc Tryz.prog w 0 (fun _=>true) true fuel 40 [v] = some dx):∃ l,AtW ER w v l/\okFields l/\len2 dx.1 l.length:=by
  have:Inhabited (Int × ByteArray):=⟨(0,.empty)⟩
  obtain ⟨l,h1,h2⟩:=open_row ER Tryz.underlying40 (by kernel_rfl) (by decide) (Q:=fun x _=>(-9223372036854775808<=x.1/\x.1<=9223372036854775807)/\x.2.size<=maxLen) (fun n cs d pl hl h=>by
    obtain ⟨y0,y1,m,_,_,g0,g1⟩:=trod_struct2 Tryz.underlying45 h
    match cs,hl with
    | [c0, c1], _ =>
      rw [show Tryz.prog.cellsOf 3 = 1 from by kernel_rfl] at g0
      rw [show Tryz.prog.cellsOf 9 = 1 from by kernel_rfl] at g1
      simp at g0 g1
      obtain ⟨a,e0,_,wf⟩:=DataW.trod_int Tryz.underlying3 g0
      obtain ⟨s,e1,_,hs⟩:=DataW.trod_string Tryz.underlying9 g1
      simp only [List.cons.injEq,and_true] at e0 e1
      subst e0
      subst e1
      refine ⟨(a,s),rfl,?_,hs⟩
      simp [Lit.wf,IntKind.min,IntKind.max,IntKind.signed,IntKind.bits] at wf
      exact ⟨by omega,by omega⟩) hf
  refine ⟨l,h1,fun x hx=>?_,?_⟩
  · rcases h2 with ⟨_, rfl⟩ | ⟨es, sp, _, _, hq⟩
    · cases hx
    · obtain ⟨i, hi⟩ := List.mem_iff_getElem?.1 hx
      obtain ⟨d,_,hd⟩:=hq i x hi
      exact hd
  · rcases h2 with ⟨_, rfl⟩ | ⟨es, sp, he, hl, _⟩
    · exact .inl rfl
    · exact .inr ⟨es,sp,he,hl⟩
theorem weights_mem_all {H:Type} {P:Program} {e:TypeId} {n:Nat}:∀ {ds:List (DataW H)} {d:DataW H},d∈ds->n∈d.weights P e->n∈DataW.weightsAll P e ds
  | d0 :: ds, d, hd, hn => by
    simp only [DataW.weightsAll,List.mem_append]
    rcases List.mem_cons.1 hd with rfl | hd
    · exact .inl hn
    · exact .inr (weights_mem_all hd hn)
  | [],_,hd,_=>by cases hd
theorem reach_le:reachBytes<=140737488351232:=by decide
theorem sopen_ents {H : Type} {enc : TypeId × Value → H} {w : World} {fuel : Nat} {v : Value} {dx : DataW H × List MemPlace} (hf : DataW.trod enc Tryz.prog w 0 (fun _ => true) true fuel 41 [v] = some dx) : ∃ l, AtW EE w v l ∧ (∀ x ∈ l, x.1.size ≤ maxLen) ∧ len2 dx.1 l.length := by
  have:Inhabited (ByteArray × Int × Int × Int):=⟨(.empty,0,0,0)⟩
  obtain ⟨l,h1,h2⟩:=open_row EE Tryz.underlying41 (by kernel_rfl) (by decide) (Q:=fun x _=>x.1.size<=maxLen) (fun n cs d pl hl h=>by
    obtain ⟨xs,m,_,_,_,hxl,hg⟩:=DataW.trod_struct Tryz.underlying79 h
    match cs,hl with
    | [c0, c1, c2, c3], _ =>
      have g0:=hg 0 _ rfl
      have g1:=hg 1 _ rfl
      have g2:=hg 2 _ rfl
      have hx3:xs.length = 3:=by rw [hxl];rfl
      match xs,hx3 with
      | [y0, y1, y2], _ =>
        simp only [List.getElem_toArray,List.getElem_cons_zero,List.getElem_cons_succ] at g0 g1 g2
        simp only [show Tryz.prog.cellsOf 9 = 1 from by kernel_rfl,show Tryz.prog.cellsOf 3 = 1 from by kernel_rfl,show Tryz.prog.cellsOf 57 = 2 from by kernel_rfl] at g0 g1 g2
        simp at g0 g1 g2
        obtain ⟨z0,z1,m2,_,_,k0,k1⟩:=trod_struct2 Tryz.underlying57 g2
        simp only [show Tryz.prog.cellsOf 3 = 1 from by kernel_rfl] at k0 k1
        simp at k0 k1
        obtain ⟨s,e0,_,hs0⟩:=DataW.trod_string Tryz.underlying9 g0
        obtain ⟨a,e1,_,_⟩:=DataW.trod_int Tryz.underlying3 g1
        obtain ⟨b,e2,_,_⟩:=DataW.trod_int Tryz.underlying3 k0
        obtain ⟨c,e3,_,_⟩:=DataW.trod_int Tryz.underlying3 k1
        simp only [List.cons.injEq,and_true] at e0 e1 e2 e3
        subst e0
        subst e1
        subst e2
        subst e3
        exact ⟨(s,a,b,c),rfl,hs0⟩) hf
  refine ⟨l,h1,fun x hx=>?_,?_⟩
  · rcases h2 with ⟨_, rfl⟩ | ⟨es, sp, he, _, hq⟩
    · cases hx
    · obtain ⟨i, hi⟩ := List.mem_iff_getElem?.1 hx
      obtain ⟨d,_,hd⟩:=hq i x hi
      exact hd
  rcases h2 with ⟨_,rfl⟩ | ⟨es,sp,he,hl,_⟩
  · exact .inl rfl
  · exact .inr ⟨es,sp,he,hl⟩
/-- What an inode that came in is, and how it reads. -/
def SInoRead {H:Type} (w:World) (x:Rw) (d:DataW H):Prop:=AtW ER w (.slice x.rp x.rn x.rc) x.i.runs/\okFields x.i.runs/\AtW EE w (.slice x.ep x.en x.ec) x.i.ents/\(∀ e∈x.i.ents,e.1.size<=maxLen)/\∃ y0 y1 y2 y3 y4,d = .agg [y0,y1,y2,y3,y4]/\len2 y2 x.i.runs.length/\len2 y3 x.i.ents.length
theorem sopen_ino {H : Type} {enc : TypeId × Value → H} {w : World} {n : Nat} {cs : List Value} {d : DataW H} {pl : List MemPlace} (hl : cs.length = 8) (h : DataW.trod enc Tryz.prog w 0 (fun _ => true) true n 43 cs = some (d, pl)) : ∃ x : Rw, cs = EI.cells x ∧ SInoRead w x d := by
  obtain ⟨xs,m,_,hxy,_,hxl,hg⟩:=DataW.trod_struct Tryz.underlying43 h
  match cs,hl with
  | [c0, c1, c2, c3, c4, c5, c6, c7], _ =>
    have g0:=hg 0 _ rfl
    have g1:=hg 1 _ rfl
    have g2:=hg 2 _ rfl
    have g3:=hg 3 _ rfl
    have g4:=hg 4 _ rfl
    have hx5:xs.length = 5:=by rw [hxl];rfl
    match xs,hx5 with
    | [y0, y1, y2, y3, y4], _ =>
      simp only [List.getElem_toArray,List.getElem_cons_zero,List.getElem_cons_succ] at g0 g1 g2 g3 g4
      simp only [show Tryz.prog.cellsOf 40 = 1 from by kernel_rfl,show Tryz.prog.cellsOf 41 = 1 from by kernel_rfl,show Tryz.prog.cellsOf 3 = 1 from by kernel_rfl,show Tryz.prog.cellsOf 39 = 4 from by kernel_rfl] at g0 g1 g2 g3 g4
      simp at g0 g1 g2 g3 g4
      obtain ⟨zs,m2,_,_,_,hzl,hz⟩:=DataW.trod_struct Tryz.underlying39 g1
      have k0:=hz 0 _ rfl
      have k1:=hz 1 _ rfl
      have k2:=hz 2 _ rfl
      have k3:=hz 3 _ rfl
      have hz4:zs.length = 4:=by rw [hzl];rfl
      match zs,hz4 with
      | [z0, z1, z2, z3], _ =>
        simp only [List.getElem_toArray,List.getElem_cons_zero,List.getElem_cons_succ] at k0 k1 k2 k3
        simp only [show Tryz.prog.cellsOf 3 = 1 from by kernel_rfl] at k0 k1 k2 k3
        simp at k0 k1 k2 k3
        obtain ⟨g,e0,_,_⟩:=DataW.trod_int Tryz.underlying3 g0
        obtain ⟨k,e1,_,_⟩:=DataW.trod_int Tryz.underlying3 k0
        obtain ⟨l,e2,_,_⟩:=DataW.trod_int Tryz.underlying3 k1
        obtain ⟨s,e3,_,_⟩:=DataW.trod_int Tryz.underlying3 k2
        obtain ⟨t,e4,_,_⟩:=DataW.trod_int Tryz.underlying3 k3
        obtain ⟨nx,e7,_,_⟩:=DataW.trod_int Tryz.underlying3 g4
        obtain ⟨rs,hr1,hr2,hr3⟩:=open_runs g2
        obtain ⟨es,he1,he3,he2⟩:=sopen_ents g3
        simp only [List.cons.injEq,and_true] at e0 e1 e2 e3 e4 e7
        subst e0
        subst e1
        subst e2
        subst e3
        subst e4
        subst e7
        obtain ⟨rp,rc,rfl,_,_⟩:=hr1.open
        obtain ⟨ep,ec,rfl,_,_⟩:=he1.open
        exact ⟨⟨⟨g,k,l,s,t,rs,es,nx⟩,rp,rs.length,rc,ep,es.length,ec⟩,rfl,hr1,hr2,he1,he3,_,_,_,_,_,(Prod.mk.inj hxy).1,hr3,he2⟩
theorem sgood_of_read {H : Type} {w : World} {x : Rw} {d : DataW H} (h : SInoRead w x d) (hwt : ∀ n ∈ d.weights Tryz.prog 43, n ≤ reachBytes) : GoodW w x := by
  obtain ⟨h1,h2,h3,-,y0,y1,y2,y3,y4,hd,l2,l3⟩:=h
  have hrb:=reach_le
  subst hd
  refine ⟨h1,h3,h2,?_,?_⟩
  · rcases l2 with l2 | ⟨es, sp, rfl, l2⟩
    · omega
    · have := hwt ((es.length + sp.length) * Tryz.prog.bytesOf 45) (by
        simp only [DataW.weights,Tryz.underlying43]
        refine DataW.weights_mem_each (j:=2) (t:=40) (d:=.slice es sp) rfl rfl _ ?_
        simp [DataW.weights,Tryz.underlying40])
      rw [show Tryz.prog.bytesOf 45 = 24 from by kernel_rfl] at this
      omega
  · rcases l3 with l3 | ⟨es, sp, rfl, l3⟩
    · omega
    · have := hwt ((es.length + sp.length) * Tryz.prog.bytesOf 79) (by
        simp only [DataW.weights,Tryz.underlying43]
        refine DataW.weights_mem_each (j:=3) (t:=41) (d:=.slice es sp) rfl rfl _ ?_
        simp [DataW.weights,Tryz.underlying41])
      rw [show Tryz.prog.bytesOf 79 = 40 from by kernel_rfl] at this
      omega
theorem sopen_tab {H:Type} {enc:TypeId × Value->H} {w:World} {v:Value} {d:DataW H} {p:List MemPlace} (hv:∃ a len cap,v = .slice a len cap) (h:DataW.Trod enc Tryz.prog w 0 (fun _=>true) true 22 v d p) (hwt:∀ n∈d.weights Tryz.prog 22,n<=reachBytes):∃ L,TabW w v L/\Sp.okN L:=by
  obtain ⟨a,len,cap,rfl⟩:=hv
  obtain ⟨fuel,hf⟩:=h
  obtain ⟨L,h1,h2⟩:=open_row EI Tryz.underlying22 (by kernel_rfl) (by decide) (Q:=fun x d=>SInoRead w x d) (fun n cs d pl hl h=>sopen_ino hl h) (by simpa [Value.cells] using hf)
  refine ⟨L,⟨h1,fun x hx=>?_⟩,?_⟩
  · rcases h2 with ⟨_, rfl⟩ | ⟨es, sp, hd, _, hq⟩
    · cases hx
    · obtain ⟨i, hi⟩ := List.mem_iff_getElem?.1 hx
      obtain ⟨dd,hdd,hr⟩:=hq i x hi
      refine sgood_of_read hr fun n hn=>hwt n ?_
      simp only at hd
      rw [hd]
      simp only [DataW.weights,Tryz.underlying22,List.mem_cons,List.mem_append]
      right
      left
      exact weights_mem_all (List.mem_of_getElem? hdd) hn
  · intro x hx
    rcases h2 with ⟨_,rfl⟩ | ⟨es,sp,hd,_,hq⟩
    · cases hx
    · obtain ⟨i, hi⟩ := List.mem_iff_getElem?.1 hx
      obtain ⟨dd,hdd,hr⟩:=hq i x hi
      exact hr.2.2.2.1
end Go.Proofs.YtggoccfddnpelaaGreatDoor
namespace Go.Proofs.YtggoccfddnpelaaGreatDoor
set_option maxRecDepth 100000
namespace Law
open Go.ChangeShapes Go.WideShapes Go.ChangeAt Go.RowKit
theorem below_trodAll {H:Type} {enc:TypeId × Value->H} {P:Program} {W W':World} (hl:laidOutB P = true) (hb:Below W.heap.size W W') :
    ∀ (ts : List TypeId) (vs : List Value) (ds : List (DataW H)) (p : List MemPlace), (∀ t ∈ ts, P.readableRec t = true ∧ t < P.types.size) → (∀ x ∈ p, x.block < W.heap.size) →
      DataW.TrodAll enc P W 0 (fun _=>true) true ts vs ds p->DataW.TrodAll enc P W' 0 (fun b=>decide (b < W.heap.size)) true ts vs ds p
  | [],[],[],_,_,_,h=>h
  | t :: ts, v :: vs, d :: ds, p, hts, hlt, h => by
    obtain ⟨p0,q,h0,hq,rfl⟩:=h
    have ht:=hts t (by simp)
    exact ⟨p0,q,Below.trod hl ht.1 ht.2 h0 hb (fun x hx=>hlt x (by simp [hx])),below_trodAll hl hb ts vs ds q (fun u hu=>hts u (by simp [hu])) (fun x hx=>hlt x (by simp [hx])) hq,rfl⟩
theorem post {H:Type} {enc:TypeId × Value->H} {P:Program} {f:Func} {s:ChangeSpec} {tb:TypeId} {W W':World} {args:Array Value} {ds gs:List (DataW H)} {before:List MemPlace}
    (hl:laidOutB P = true) (hts:f.params.toList.all (fun t=>P.readableRec t && decide (t < P.types.size)) = true) (hrt:f.resultTypes = #[tb]) (hub:P.underlying tb = some .bool)
    (hW:DataW.Whole enc P f.params.toList s.vars false W args.toList ds gs before) (hv:s.vars = [])
    (hspec:s.fn H (ds ++ gs) = { results:=[.lit (.bool true)],args:=ds }) (hb:Below W.heap.size W W') :
    s.post enc P f false true false false W args (.bool true) W':=by
  have hW':=hW
  obtain ⟨p,q,hA,hV,rfl,hfz,hnd⟩:=hW
  rw [hv] at hV
  obtain ⟨rfl,rfl⟩:=trodVars_none hV
  have hlt:∀ x∈p,x.block < W.heap.size:=fun x hx=>by simpa using hW'.lt x (by simpa using hx)
  refine ⟨ds,[],p ++ [],[],p,[],hW',?_,?_,?_,hb.frame _,fun h=>by cases h⟩
  · rw [hspec, hrt]
    exact trodAll_mk1 (shut_bool hub _)
  · rw [hspec]
    refine below_trodAll hl hb _ _ _ _ (fun t ht=>?_) hlt hA
    have:=List.all_eq_true.1 hts t ht
    simpa using this
  · rw [hspec, hv]
    rfl
end Law
end Go.Proofs.YtggoccfddnpelaaGreatDoor
namespace Go.Proofs.YtggoccfddnpelaaGreatDoor
open Go.ChangeShapes Go.WideShapes Go.ChangeAt Go.RowKit Go.Deep It
set_option maxRecDepth 100000
theorem slice_of {H:Type} {enc:TypeId × Value->H} {P:Program} {w:World} {t e:TypeId} {fuel:Nat} {v:Value} {dx:DataW H × List MemPlace} (ht:P.underlying t = some (.slice e)) (hf:DataW.trod enc P w 0 (fun _=>true) true fuel t [v] = some dx):∃ a len cap,v = .slice a len cap:=by
  rcases open_slice ht hf with ⟨hcs,hx⟩ | ⟨a,len,cap,m,n,D,Pl,hcs,-⟩
  · simp at hcs
    exact ⟨_,_,_,hcs⟩
  · simp at hcs
    exact ⟨_,_,_,hcs⟩
theorem open_opens {H : Type} {enc : TypeId × Value → H} {w : World} {fuel : Nat} {v : Value} {dx : DataW H × List MemPlace} (hf : DataW.trod enc Tryz.prog w 0 (fun _ => true) true fuel 23 [v] = some dx) : ∃ l, AtW Os.EO w v l := by
  have:Inhabited Os.Opn:=⟨(0,0,0,0)⟩
  obtain ⟨l,h1,-⟩:=open_row Os.EO Tryz.underlying23 (by kernel_rfl) (by decide) (Q:=fun _ _=>True) (fun n cs d pl hl h=>by
    obtain ⟨xs,m,_,_,_,hxl,hg⟩:=DataW.trod_struct Tryz.underlying59 h
    match cs,hl with
    | [c0, c1, c2, c3], _ =>
      have g0:=hg 0 _ rfl
      have g1:=hg 1 _ rfl
      have g2:=hg 2 _ rfl
      have hx3:xs.length = 3:=by rw [hxl];rfl
      match xs,hx3 with
      | [y0, y1, y2], _ =>
        simp only [List.getElem_toArray,List.getElem_cons_zero,List.getElem_cons_succ] at g0 g1 g2
        simp only [show Tryz.prog.cellsOf 3 = 1 from by kernel_rfl,show Tryz.prog.cellsOf 57 = 2 from by kernel_rfl] at g0 g1 g2
        simp at g0 g1 g2
        obtain ⟨z0,z1,m2,_,_,k0,k1⟩:=trod_struct2 Tryz.underlying57 g2
        simp only [show Tryz.prog.cellsOf 3 = 1 from by kernel_rfl] at k0 k1
        simp at k0 k1
        obtain ⟨s,e0,_,_⟩:=DataW.trod_int Tryz.underlying3 g0
        obtain ⟨a,e1,_,_⟩:=DataW.trod_int Tryz.underlying3 g1
        obtain ⟨b,e2,_,_⟩:=DataW.trod_int Tryz.underlying3 k0
        obtain ⟨c,e3,_,_⟩:=DataW.trod_int Tryz.underlying3 k1
        simp only [List.cons.injEq,and_true] at e0 e1 e2 e3
        subst e0
        subst e1
        subst e2
        subst e3
        exact ⟨(s,a,b,c),rfl,trivial⟩) hf
  exact ⟨l,h1⟩
theorem open_seats {H : Type} {enc : TypeId × Value → H} {w : World} {fuel : Nat} {v : Value} {dx : DataW H × List MemPlace} (hf : DataW.trod enc Tryz.prog w 0 (fun _ => true) true fuel 24 [v] = some dx) : ∃ l, AtW Es.ES w v l := by
  have:Inhabited Es.Sea:=⟨(0,0,.empty)⟩
  obtain ⟨l,h1,-⟩:=open_row Es.ES Tryz.underlying24 (by kernel_rfl) (by decide) (Q:=fun _ _=>True) (fun n cs d pl hl h=>by
    obtain ⟨xs,m,_,_,_,hxl,hg⟩:=DataW.trod_struct Tryz.underlying62 h
    match cs,hl with
    | [c0, c1, c2], _ =>
      have g0:=hg 0 _ rfl
      have g1:=hg 1 _ rfl
      have g2:=hg 2 _ rfl
      have hx3:xs.length = 3:=by rw [hxl];rfl
      match xs,hx3 with
      | [y0, y1, y2], _ =>
        simp only [List.getElem_toArray,List.getElem_cons_zero,List.getElem_cons_succ] at g0 g1 g2
        simp only [show Tryz.prog.cellsOf 3 = 1 from by kernel_rfl,show Tryz.prog.cellsOf 9 = 1 from by kernel_rfl] at g0 g1 g2
        simp at g0 g1 g2
        obtain ⟨s,e0,_,_⟩:=DataW.trod_int Tryz.underlying3 g0
        obtain ⟨a,e1,_,_⟩:=DataW.trod_int Tryz.underlying3 g1
        obtain ⟨b,e2,_,_⟩:=DataW.trod_string Tryz.underlying9 g2
        simp only [List.cons.injEq,and_true] at e0 e1 e2
        subst e0
        subst e1
        subst e2
        exact ⟨(s,a,b),rfl,trivial⟩) hf
  exact ⟨l,h1⟩
theorem open_state {H : Type} {enc : TypeId × Value → H} {w : World} {r : Reach} {b0 : Nat} {v : Value} {d : DataW H} {p : List MemPlace} (hv : Value.okWide Tryz.prog w r b0 26 v) (h : DataW.Trod enc Tryz.prog w 0 (fun _ => true) true 26 v d p) (hwt : ∀ n ∈ d.weights Tryz.prog 26, n ≤ reachBytes) :
    ∃ (vi vo:Value) (sp:Option Addr) (sn sc:Nat) (dn:Int) (L:List Rw) (O:List Os.Opn) (Z:List Es.Sea),v = VSt vi vo (.slice sp sn sc) dn/\TabW w vi L/\Sp.okN L/\AtW Os.EO w vo O/\AtW Es.ES w (.slice sp sn sc) Z:=by
  obtain ⟨cs,rfl,hsz⟩:=okWide_struct Tryz.underlying26 hv
  have hsz':cs.size = 4:=hsz.trans (by kernel_rfl)
  obtain ⟨fuel,hf⟩:=h
  obtain ⟨xs,m,_,hxy,_,hxl,hg⟩:=DataW.trod_struct Tryz.underlying26 hf
  have hl:cs.toList.length = 4:=by simpa using hsz'
  obtain ⟨l⟩:=cs
  simp only at hl
  match l,hl with
  | [c0, c1, c2, c3], _ =>
    have hx4:xs.length = 4:=by rw [hxl];rfl
    have g0:=hg 0 _ rfl
    have g1:=hg 1 _ rfl
    have g2:=hg 2 _ rfl
    have g3:=hg 3 _ rfl
    match xs,hx4 with
    | [y0, y1, y2, y3], _ =>
      simp only [List.getElem_toArray,List.getElem_cons_zero,List.getElem_cons_succ] at g0 g1 g2 g3
      simp only [Value.cells,show Tryz.prog.cellsOf 3 = 1 from by kernel_rfl,show Tryz.prog.cellsOf 22 = 1 from by kernel_rfl,show Tryz.prog.cellsOf 23 = 1 from by kernel_rfl,show Tryz.prog.cellsOf 24 = 1 from by kernel_rfl] at g0 g1 g2 g3
      simp at g0 g1 g2 g3
      obtain ⟨dn,e3,_,_⟩:=DataW.trod_int Tryz.underlying3 g3
      simp only [List.cons.injEq,and_true] at e3
      subst e3
      obtain ⟨O,hO⟩:=open_opens g1
      obtain ⟨Z,hZ⟩:=open_seats g2
      obtain ⟨sp,sc,hz,-,-⟩:=hZ.open
      subst hz
      obtain ⟨a,len,cap,hs⟩:=slice_of Tryz.underlying22 g0
      subst hs
      have hd:d = .agg [y0.1,y1.1,y2.1,y3.1]:=(Prod.mk.inj hxy).1
      obtain ⟨L,hL,hk⟩:=sopen_tab (w:=w) (enc:=enc) (d:=y0.1) (p:=y0.2) ⟨a,len,cap,rfl⟩ ⟨_,by simpa [Value.cells] using g0⟩ (fun n hn=>hwt n (by
        rw [hd]
        simp only [DataW.weights,Tryz.underlying26]
        exact DataW.weights_mem_each (j:=0) (t:=22) (d:=y0.1) rfl rfl n hn))
      exact ⟨_,_,_,_,_,dn,L,O,Z,rfl,hL,hk,hO,hZ⟩
end Go.Proofs.YtggoccfddnpelaaGreatDoor
