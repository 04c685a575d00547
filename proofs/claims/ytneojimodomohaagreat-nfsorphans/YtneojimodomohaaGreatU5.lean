/- NfOrphans, as one. -/
import Derived.Test.YtneojimodomohaaGreatU4
namespace Go.Proofs.YtneojimodomohaaGreat
open Go.ChangeShapes Go.WideShapes Go.ChangeAt Go.RowKit Go.Deep It
set_option maxRecDepth 100000
def E1:Enc Int:=⟨1,fun x=>[.int .i64 x],fun _=>rfl,fun x u hu=>by
 simp at hu
 subst hu
 rfl⟩
theorem open_c1 {H:Type} {enc:TypeId × Value->H} {w:World} {n:Nat} {cs:List Value} {d:DataW H} {pl:List MemPlace} (hl:cs.length = E1.sz) (h:DataW.trod enc Tryz.prog w 0 (fun _=>true) true n 3 cs = some (d,pl)):∃ x:Int,cs = E1.cells x/\True:=by
 match cs,hl with
 | [c],_ =>
  obtain ⟨x,e,_,_⟩:=DataW.trod_int Tryz.underlying3 h
  exact ⟨x,e,trivial⟩
theorem open_cls {H:Type} {enc:TypeId × Value->H} {w:World} {v:Value} {d:DataW H} {p:List MemPlace} (hv:∃ a len cap,v = .slice a len cap) (h:DataW.Trod enc Tryz.prog w 0 (fun _=>true) true 51 v d p):∃ l:List Int,AtW E1 w v l:=by
 obtain ⟨a,len,cap,rfl⟩:=hv
 obtain ⟨fuel,hf⟩:=h
 obtain ⟨l,h1,_⟩:=open_row E1 Tryz.underlying51 (by kernel_rfl) (by decide) (Q:=fun _ _=>True) (fun n cs d pl hl h=>open_c1 hl h) (by simpa [Value.cells] using hf)
 exact ⟨l,h1⟩
set_option linter.unusedSimpArgs false in
set_option maxHeartbeats 8000000 in
theorem orphans_any (vl : Value) (l : List Int) (d : ByteArray) (w : World) (hv : AtW E1 w vl l) (hd : d.size ≤ maxLen) :
  Calls Tryz.prog 7 #[vl,.string d] w fun e w'=>e = .returned (.bool true)/\Below w.heap.size w w':=by
 obtain ⟨ao,cap,rfl,hm,hx⟩:=hv.open
 clear hv
 unfold maxLen at hm hd
 obtain ⟨N,hN⟩:∃ N,l.length = N:=⟨_,rfl⟩
 rw [hN] at hm ⊢
 have HN:Hid (l.length = N):=hN
 have HX:Hid (∀ i x,l[i]? = some x->∃ b off,ao = some ⟨b,off,none⟩/\True/\b < w.heap.size/\∀ k u,(E1.cells x)[k]? = some u->w.cell? ⟨b,off + (i * E1.sz + k),none⟩ = some u):=hx
 clear hN hx
 by_cases hg:0 < N/\N<=16/\d.size<=512
 ·have g1 : ¬ (N : Int) = 0 := by omega
  have g2:¬ (16:Int) < (N:Int):=by omega
  have g3:¬ (512:Int) < (d.size:Int):=by omega
  have HG:Hid (0 < N/\N<=16/\d.size<=512):=hg
  clear hg
  go_enter Tryz.func7,Tryz.ntmps7
  go_wp2_with fail
  go_loopw [41] (fun i wr=>∃ k:Nat,k<=N/\i = .int .i64 k/\Hid (∀ j c,j < k->l[j]? = some c->0<=c/\c<=1099511627776)/\Hid (Below w.heap.size w wr)) (fun i _=>N - (intOf i).toNat)
  case atStart=>exact ⟨0,Nat.zero_le _,rfl,fun j c h=>absurd h (Nat.not_lt_zero _),Below.refl _ _⟩
  case round =>
   obtain ⟨k,hk,rfl,HC,HB⟩:=hrel
   by_cases hlt:k < N
   ·obtain ⟨x,hxk⟩:∃ x,l[k]? = some x:=⟨_,List.getElem?_eq_getElem (by rw [HN.out];exact hlt)⟩
    obtain ⟨b,off,rfl,-,hbl,hc⟩:=HX.out k x hxk
    have c0:wr.cell? ⟨b,off + k,none⟩ = some (.int .i64 x):=(HB.out.cell (p:=⟨b,off + k,none⟩) hbl).trans (by have h:=hc 0 _ rfl;simpa [E1] using h)
    have HK:Hid (l[k]? = some x):=hxk
    clear hc hxk
    have hlt':(k:Int) < (N:Int):=by omega
    by_cases hx1:0<=x/\x<=1099511627776
    ·have q1:¬ x < 0:=by omega
     have q2:¬ (1099511627776:Int) < x:=by omega
     go_wp2
     go_roundw
     case rel =>
      refine ⟨k + 1,by omega,by go_num,fun j c hj hjc=>?_,HB⟩
      by_cases hjk:j = k
      ·subst hjk
       rw [HK.out] at hjc
       cases hjc
       exact hx1
      ·exact HC.out j c (by omega) hjc
     case measure=>simp [intOf];omega
    ·have hor:x < 0∨(¬ x < 0/\(1099511627776:Int) < x):=by omega
     clear hx1
     rcases hor with q1 | ⟨q1,q2⟩
     all_goals
      go_wp2_with fail
      refine (orphan_any _).mono ?_
      rintro e w1 ⟨rfl,hb⟩
      have HBZ:Hid (Below w.heap.size w w1):=HB.out.trans (hb.mono HB.out.size)
      clear hb
      go_wp2
      go_ret
      exact ⟨rfl,HBZ.out⟩
   ·obtain rfl:N = k:=by omega
    have HCL:Hid (∀ c∈l,0<=c/\c<=1099511627776):=fun c hc=>by
     obtain ⟨j,hj⟩:=List.mem_iff_getElem?.1 hc
     exact HC.out j c (by have h:=(qM hj);rw [HN.out] at h;exact h) hj
    obtain ⟨W,hW⟩:∃ W,W = wr.alloc (BH2 0 1):=⟨_,rfl⟩
    obtain ⟨R,hR⟩:∃ R,R = wr.heap.size:=⟨_,rfl⟩
    obtain ⟨hbw,hnw⟩:=al_new hW hR
    have HB0:Hid (Below w.heap.size w W):=HB.out.trans (hbw.mono HB.out.size)
    have HA0:Hid (W.heap[R]? = some (BH2 0 1)):=hnw
    have hwW:R < W.heap.size:=(qL HA0.out)
    have hRw:w.heap.size<=R:=by rw [hR];exact HB.out.size
    clear hbw hnw HC
    go_wp2_with fail
    rw [← hW,← hR]
    clear hW hR HB
    apply cut_in
    ·intro hK0
     refine wp_region_any (by kernel_rfl) ?_
     change wpAny _ _ _ _ _ _ _ (World.drew _)
     have HS:(fun V:World=>V.heap[R]? = some (BH2 0 1)) W.drew:=HA0.out
     refine Fst.any_of (late:=fun k=>[9,10].contains k) (S:=fun V:World=>V.heap[R]? = some (BH2 0 1)) _ _ _ _ ?_
     refine Fst.tk (ls:=[9,10]) (i:=1) (v:=?v1) rfl (Or.inl ⟨by rfl,?h1⟩) HS ?r1
     case h1=>(intro V s;have s0:=cell_at s 0;have s1:=cell_at s 1;simp at s0 s1;go_simp;try with_reducible rfl)
     try simp only [Act.put,qX,qY,qZ]
     refine Fst.tp (i:=2) rfl (HS) ?_
     try simp only [Act.put,qX,qY,qZ]
     clear HS
     have H:Hid (Stg W W.drew none none):=⟨bel_drew (Below.refl _ _),fun _ h=>(by cases h),fun _ h=>(by cases h),fun _ _ h=>(by cases h)⟩
     refine Fst.s3 0 7 8 (fun K hK=>?_) (fun K hK=>?_) (fun K hK=>?_)
     ·go_simp
      refine (svs_new _).mono ?_
      rintro e v1 ⟨ap,n,cp,rfl,hs,hb⟩
      have T:Hid (Svs _ v1 _ _ _ _):=H.out.fresh hs
      replace H:Hid (Stg W v1 _ _):=H.out.call hb
      clear hs hb
      refine hK _ _ (H.out.cell HA0.out) ?_
      clear hK K
      try simp only [Act.put,qX,qY,qZ]
      refine Fst.s3 3 7 8 (fun K hK=>?_) (fun K hK=>?_) (fun K hK=>?_)
      ·go_simp
       refine (svs_do (cl:=0) (c:=Nf.c1) T.out Nf.rx_new (by unfold fits maxLen;decide) Nf.first_o.1 Nf.first_o.2.1 Nf.first_o.2.2.1 Nf.first_o.2.2.2.1).mono ?_
       rintro e v2 ⟨ep,en,ec,up,un,uc,op,on,oc,rfl,hs,hb⟩
       replace T:Hid (Svs _ v2 _ _ _ _):=H.out.keep hs
       replace H:Hid (Stg W v2 _ _):=H.out.call hb
       clear hs hb
       refine hK _ _ (H.out.cell HA0.out) ?_
       clear hK K
       try simp only [Act.put,qX,qY,qZ]
       refine Fst.tp (i:=4) rfl (H.out.cell HA0.out) ?_
       try simp only [Act.put,qX,qY,qZ]
       refine Fst.tp (i:=5) rfl (H.out.cell HA0.out) ?_
       try simp only [Act.put,qX,qY,qZ]
       refine Fst.tp (i:=6) rfl (H.out.cell HA0.out) ?_
       try simp only [Act.put,qX,qY,qZ]
       refine Fst.s2 7 8 (fun K hK=>?_) (fun K hK=>?_)
       ·go_simp
        obtain ⟨A7,hA⟩:∃ a,a = v2.heap.size:=⟨_,rfl⟩
        obtain ⟨v3,hv⟩:∃ x,x = v2.alloc BS0:=⟨_,rfl⟩
        replace T:Hid (Svs _ v3 _ _ _ _):=svs7 T.out hv
        replace H:Hid (Stg W v3 _ _):=H.out.new7 hv hA
        rw [← hv,← hA]
        clear hv hA
        refine hK _ _ (H.out.cell HA0.out) ?_
        clear hK K
        try simp only [Act.put,qX,qY,qZ]
        refine Fst.s1 8 (fun K hK=>?_)
        go_simp
        obtain ⟨A8,hA⟩:∃ a,a = v3.heap.size:=⟨_,rfl⟩
        obtain ⟨v4,hv⟩:∃ x,x = v3.alloc BR0:=⟨_,rfl⟩
        replace T:Hid (Svs _ v4 _ _ _ _):=svs8 T.out hv hA
        replace H:Hid (Stg W v4 _ _):=H.out.new8 hv hA
        rw [← hv,← hA]
        clear hv hA
        refine hK _ _ (H.out.cell HA0.out) ?_
        clear hK K
        try simp only [Act.put,qX,qY,qZ]
        refine Fst.rest (by kernel_rfl) ?_
        have HR:Hid (Rgn R (BH2 0 1) v4 A7 A8 (.slice up un uc) (.slice op on oc) (Nf.F1s Nf.xA) [] W):=H.out.rgn T.out
        clear H T
        refine wpAny_l (l':=#[true,true,true,true,true,true,true,true,true,false,false]) (by kernel_rfl) ?_
        revert HR
        revert v4
        revert A8
        revert A7
        revert oc
        revert on
        revert op
        revert uc
        revert un
        revert up
        revert ec
        revert en
        revert ep
        revert cp
        revert n
        revert ap
        exact hK0.out
       ·go_simp
        obtain ⟨A8,hA⟩:∃ a,a = v2.heap.size:=⟨_,rfl⟩
        obtain ⟨v5,hv⟩:∃ x,x = v2.alloc BR0:=⟨_,rfl⟩
        replace T:Hid (Svs _ v5 _ _ _ _):=svs8 T.out hv hA
        replace H:Hid (Stg W v5 _ _):=H.out.new8 hv hA
        rw [← hv,← hA]
        clear hv hA
        refine hK _ _ (H.out.cell HA0.out) ?_
        clear hK K
        try simp only [Act.put,qX,qY,qZ]
        refine Fst.s1 7 (fun K hK=>?_)
        go_simp
        obtain ⟨A7,hA⟩:∃ a,a = v5.heap.size:=⟨_,rfl⟩
        obtain ⟨v6,hv⟩:∃ x,x = v5.alloc BS0:=⟨_,rfl⟩
        replace T:Hid (Svs _ v6 _ _ _ _):=svs7 T.out hv
        replace H:Hid (Stg W v6 _ _):=H.out.new7 hv hA
        rw [← hv,← hA]
        clear hv hA
        refine hK _ _ (H.out.cell HA0.out) ?_
        clear hK K
        try simp only [Act.put,qX,qY,qZ]
        refine Fst.rest (by kernel_rfl) ?_
        refine wpAny_l (l':=#[true,true,true,true,true,true,true,true,true,false,false]) (by kernel_rfl) ?_
        exact hK0.out _ _ _ _ _ _ _ _ _ _ _ _ _ _ _ (H.out.rgn T.out)
      ·go_simp
       obtain ⟨A7,hA⟩:∃ a,a = v1.heap.size:=⟨_,rfl⟩
       obtain ⟨v7,hv⟩:∃ x,x = v1.alloc BS0:=⟨_,rfl⟩
       replace T:Hid (Svs _ v7 _ _ _ _):=svs7 T.out hv
       replace H:Hid (Stg W v7 _ _):=H.out.new7 hv hA
       rw [← hv,← hA]
       clear hv hA
       refine hK _ _ (H.out.cell HA0.out) ?_
       clear hK K
       try simp only [Act.put,qX,qY,qZ]
       refine Fst.s2 3 8 (fun K hK=>?_) (fun K hK=>?_)
       ·go_simp
        refine (svs_do (cl:=0) (c:=Nf.c1) T.out Nf.rx_new (by unfold fits maxLen;decide) Nf.first_o.1 Nf.first_o.2.1 Nf.first_o.2.2.1 Nf.first_o.2.2.2.1).mono ?_
        rintro e v8 ⟨ep,en,ec,up,un,uc,op,on,oc,rfl,hs,hb⟩
        replace T:Hid (Svs _ v8 _ _ _ _):=H.out.keep hs
        replace H:Hid (Stg W v8 _ _):=H.out.call hb
        clear hs hb
        refine hK _ _ (H.out.cell HA0.out) ?_
        clear hK K
        try simp only [Act.put,qX,qY,qZ]
        refine Fst.tp (i:=4) rfl (H.out.cell HA0.out) ?_
        try simp only [Act.put,qX,qY,qZ]
        refine Fst.tp (i:=5) rfl (H.out.cell HA0.out) ?_
        try simp only [Act.put,qX,qY,qZ]
        refine Fst.tp (i:=6) rfl (H.out.cell HA0.out) ?_
        try simp only [Act.put,qX,qY,qZ]
        refine Fst.s1 8 (fun K hK=>?_)
        go_simp
        obtain ⟨A8,hA⟩:∃ a,a = v8.heap.size:=⟨_,rfl⟩
        obtain ⟨v9,hv⟩:∃ x,x = v8.alloc BR0:=⟨_,rfl⟩
        replace T:Hid (Svs _ v9 _ _ _ _):=svs8 T.out hv hA
        replace H:Hid (Stg W v9 _ _):=H.out.new8 hv hA
        rw [← hv,← hA]
        clear hv hA
        refine hK _ _ (H.out.cell HA0.out) ?_
        clear hK K
        try simp only [Act.put,qX,qY,qZ]
        refine Fst.rest (by kernel_rfl) ?_
        refine wpAny_l (l':=#[true,true,true,true,true,true,true,true,true,false,false]) (by kernel_rfl) ?_
        exact hK0.out _ _ _ _ _ _ _ _ _ _ _ _ _ _ _ (H.out.rgn T.out)
       ·go_simp
        obtain ⟨A8,hA⟩:∃ a,a = v7.heap.size:=⟨_,rfl⟩
        obtain ⟨v10,hv⟩:∃ x,x = v7.alloc BR0:=⟨_,rfl⟩
        replace T:Hid (Svs _ v10 _ _ _ _):=svs8 T.out hv hA
        replace H:Hid (Stg W v10 _ _):=H.out.new8 hv hA
        rw [← hv,← hA]
        clear hv hA
        refine hK _ _ (H.out.cell HA0.out) ?_
        clear hK K
        try simp only [Act.put,qX,qY,qZ]
        refine Fst.s1 3 (fun K hK=>?_)
        go_simp
        refine (svs_do (cl:=0) (c:=Nf.c1) T.out Nf.rx_new (by unfold fits maxLen;decide) Nf.first_o.1 Nf.first_o.2.1 Nf.first_o.2.2.1 Nf.first_o.2.2.2.1).mono ?_
        rintro e v11 ⟨ep,en,ec,up,un,uc,op,on,oc,rfl,hs,hb⟩
        replace T:Hid (Svs _ v11 _ _ _ _):=H.out.keep hs
        replace H:Hid (Stg W v11 _ _):=H.out.call hb
        clear hs hb
        refine hK _ _ (H.out.cell HA0.out) ?_
        clear hK K
        try simp only [Act.put,qX,qY,qZ]
        refine Fst.tp (i:=4) rfl (H.out.cell HA0.out) ?_
        try simp only [Act.put,qX,qY,qZ]
        refine Fst.tp (i:=5) rfl (H.out.cell HA0.out) ?_
        try simp only [Act.put,qX,qY,qZ]
        refine Fst.tp (i:=6) rfl (H.out.cell HA0.out) ?_
        try simp only [Act.put,qX,qY,qZ]
        refine Fst.rest (by kernel_rfl) ?_
        refine wpAny_l (l':=#[true,true,true,true,true,true,true,true,true,false,false]) (by kernel_rfl) ?_
        exact hK0.out _ _ _ _ _ _ _ _ _ _ _ _ _ _ _ (H.out.rgn T.out)
      ·go_simp
       obtain ⟨A8,hA⟩:∃ a,a = v1.heap.size:=⟨_,rfl⟩
       obtain ⟨v12,hv⟩:∃ x,x = v1.alloc BR0:=⟨_,rfl⟩
       replace T:Hid (Svs _ v12 _ _ _ _):=svs8 T.out hv hA
       replace H:Hid (Stg W v12 _ _):=H.out.new8 hv hA
       rw [← hv,← hA]
       clear hv hA
       refine hK _ _ (H.out.cell HA0.out) ?_
       clear hK K
       try simp only [Act.put,qX,qY,qZ]
       refine Fst.s2 3 7 (fun K hK=>?_) (fun K hK=>?_)
       ·go_simp
        refine (svs_do (cl:=0) (c:=Nf.c1) T.out Nf.rx_new (by unfold fits maxLen;decide) Nf.first_o.1 Nf.first_o.2.1 Nf.first_o.2.2.1 Nf.first_o.2.2.2.1).mono ?_
        rintro e v13 ⟨ep,en,ec,up,un,uc,op,on,oc,rfl,hs,hb⟩
        replace T:Hid (Svs _ v13 _ _ _ _):=H.out.keep hs
        replace H:Hid (Stg W v13 _ _):=H.out.call hb
        clear hs hb
        refine hK _ _ (H.out.cell HA0.out) ?_
        clear hK K
        try simp only [Act.put,qX,qY,qZ]
        refine Fst.tp (i:=4) rfl (H.out.cell HA0.out) ?_
        try simp only [Act.put,qX,qY,qZ]
        refine Fst.tp (i:=5) rfl (H.out.cell HA0.out) ?_
        try simp only [Act.put,qX,qY,qZ]
        refine Fst.tp (i:=6) rfl (H.out.cell HA0.out) ?_
        try simp only [Act.put,qX,qY,qZ]
        refine Fst.s1 7 (fun K hK=>?_)
        go_simp
        obtain ⟨A7,hA⟩:∃ a,a = v13.heap.size:=⟨_,rfl⟩
        obtain ⟨v14,hv⟩:∃ x,x = v13.alloc BS0:=⟨_,rfl⟩
        replace T:Hid (Svs _ v14 _ _ _ _):=svs7 T.out hv
        replace H:Hid (Stg W v14 _ _):=H.out.new7 hv hA
        rw [← hv,← hA]
        clear hv hA
        refine hK _ _ (H.out.cell HA0.out) ?_
        clear hK K
        try simp only [Act.put,qX,qY,qZ]
        refine Fst.rest (by kernel_rfl) ?_
        refine wpAny_l (l':=#[true,true,true,true,true,true,true,true,true,false,false]) (by kernel_rfl) ?_
        exact hK0.out _ _ _ _ _ _ _ _ _ _ _ _ _ _ _ (H.out.rgn T.out)
       ·go_simp
        obtain ⟨A7,hA⟩:∃ a,a = v12.heap.size:=⟨_,rfl⟩
        obtain ⟨v15,hv⟩:∃ x,x = v12.alloc BS0:=⟨_,rfl⟩
        replace T:Hid (Svs _ v15 _ _ _ _):=svs7 T.out hv
        replace H:Hid (Stg W v15 _ _):=H.out.new7 hv hA
        rw [← hv,← hA]
        clear hv hA
        refine hK _ _ (H.out.cell HA0.out) ?_
        clear hK K
        try simp only [Act.put,qX,qY,qZ]
        refine Fst.s1 3 (fun K hK=>?_)
        go_simp
        refine (svs_do (cl:=0) (c:=Nf.c1) T.out Nf.rx_new (by unfold fits maxLen;decide) Nf.first_o.1 Nf.first_o.2.1 Nf.first_o.2.2.1 Nf.first_o.2.2.2.1).mono ?_
        rintro e v16 ⟨ep,en,ec,up,un,uc,op,on,oc,rfl,hs,hb⟩
        replace T:Hid (Svs _ v16 _ _ _ _):=H.out.keep hs
        replace H:Hid (Stg W v16 _ _):=H.out.call hb
        clear hs hb
        refine hK _ _ (H.out.cell HA0.out) ?_
        clear hK K
        try simp only [Act.put,qX,qY,qZ]
        refine Fst.tp (i:=4) rfl (H.out.cell HA0.out) ?_
        try simp only [Act.put,qX,qY,qZ]
        refine Fst.tp (i:=5) rfl (H.out.cell HA0.out) ?_
        try simp only [Act.put,qX,qY,qZ]
        refine Fst.tp (i:=6) rfl (H.out.cell HA0.out) ?_
        try simp only [Act.put,qX,qY,qZ]
        refine Fst.rest (by kernel_rfl) ?_
        refine wpAny_l (l':=#[true,true,true,true,true,true,true,true,true,false,false]) (by kernel_rfl) ?_
        exact hK0.out _ _ _ _ _ _ _ _ _ _ _ _ _ _ _ (H.out.rgn T.out)
     ·go_simp
      obtain ⟨A7,hA⟩:∃ a,a = W.heap.size:=⟨_,rfl⟩
      obtain ⟨v17,hv⟩:∃ x,x = (W.alloc BS0).drew:=⟨_,rfl⟩
      replace H:Hid (Stg W v17 _ _):=H.out.new7 (by rw [hv];rfl) hA
      rw [← hv,← hA]
      clear hv hA
      refine hK _ _ (H.out.cell HA0.out) ?_
      clear hK K
      try simp only [Act.put,qX,qY,qZ]
      refine Fst.s2 0 8 (fun K hK=>?_) (fun K hK=>?_)
      ·go_simp
       refine (svs_new _).mono ?_
       rintro e v18 ⟨ap,n,cp,rfl,hs,hb⟩
       have T:Hid (Svs _ v18 _ _ _ _):=H.out.fresh hs
       replace H:Hid (Stg W v18 _ _):=H.out.call hb
       clear hs hb
       refine hK _ _ (H.out.cell HA0.out) ?_
       clear hK K
       try simp only [Act.put,qX,qY,qZ]
       refine Fst.s2 3 8 (fun K hK=>?_) (fun K hK=>?_)
       ·go_simp
        refine (svs_do (cl:=0) (c:=Nf.c1) T.out Nf.rx_new (by unfold fits maxLen;decide) Nf.first_o.1 Nf.first_o.2.1 Nf.first_o.2.2.1 Nf.first_o.2.2.2.1).mono ?_
        rintro e v19 ⟨ep,en,ec,up,un,uc,op,on,oc,rfl,hs,hb⟩
        replace T:Hid (Svs _ v19 _ _ _ _):=H.out.keep hs
        replace H:Hid (Stg W v19 _ _):=H.out.call hb
        clear hs hb
        refine hK _ _ (H.out.cell HA0.out) ?_
        clear hK K
        try simp only [Act.put,qX,qY,qZ]
        refine Fst.tp (i:=4) rfl (H.out.cell HA0.out) ?_
        try simp only [Act.put,qX,qY,qZ]
        refine Fst.tp (i:=5) rfl (H.out.cell HA0.out) ?_
        try simp only [Act.put,qX,qY,qZ]
        refine Fst.tp (i:=6) rfl (H.out.cell HA0.out) ?_
        try simp only [Act.put,qX,qY,qZ]
        refine Fst.s1 8 (fun K hK=>?_)
        go_simp
        obtain ⟨A8,hA⟩:∃ a,a = v19.heap.size:=⟨_,rfl⟩
        obtain ⟨v20,hv⟩:∃ x,x = v19.alloc BR0:=⟨_,rfl⟩
        replace T:Hid (Svs _ v20 _ _ _ _):=svs8 T.out hv hA
        replace H:Hid (Stg W v20 _ _):=H.out.new8 hv hA
        rw [← hv,← hA]
        clear hv hA
        refine hK _ _ (H.out.cell HA0.out) ?_
        clear hK K
        try simp only [Act.put,qX,qY,qZ]
        refine Fst.rest (by kernel_rfl) ?_
        refine wpAny_l (l':=#[true,true,true,true,true,true,true,true,true,false,false]) (by kernel_rfl) ?_
        exact hK0.out _ _ _ _ _ _ _ _ _ _ _ _ _ _ _ (H.out.rgn T.out)
       ·go_simp
        obtain ⟨A8,hA⟩:∃ a,a = v18.heap.size:=⟨_,rfl⟩
        obtain ⟨v21,hv⟩:∃ x,x = v18.alloc BR0:=⟨_,rfl⟩
        replace T:Hid (Svs _ v21 _ _ _ _):=svs8 T.out hv hA
        replace H:Hid (Stg W v21 _ _):=H.out.new8 hv hA
        rw [← hv,← hA]
        clear hv hA
        refine hK _ _ (H.out.cell HA0.out) ?_
        clear hK K
        try simp only [Act.put,qX,qY,qZ]
        refine Fst.s1 3 (fun K hK=>?_)
        go_simp
        refine (svs_do (cl:=0) (c:=Nf.c1) T.out Nf.rx_new (by unfold fits maxLen;decide) Nf.first_o.1 Nf.first_o.2.1 Nf.first_o.2.2.1 Nf.first_o.2.2.2.1).mono ?_
        rintro e v22 ⟨ep,en,ec,up,un,uc,op,on,oc,rfl,hs,hb⟩
        replace T:Hid (Svs _ v22 _ _ _ _):=H.out.keep hs
        replace H:Hid (Stg W v22 _ _):=H.out.call hb
        clear hs hb
        refine hK _ _ (H.out.cell HA0.out) ?_
        clear hK K
        try simp only [Act.put,qX,qY,qZ]
        refine Fst.tp (i:=4) rfl (H.out.cell HA0.out) ?_
        try simp only [Act.put,qX,qY,qZ]
        refine Fst.tp (i:=5) rfl (H.out.cell HA0.out) ?_
        try simp only [Act.put,qX,qY,qZ]
        refine Fst.tp (i:=6) rfl (H.out.cell HA0.out) ?_
        try simp only [Act.put,qX,qY,qZ]
        refine Fst.rest (by kernel_rfl) ?_
        refine wpAny_l (l':=#[true,true,true,true,true,true,true,true,true,false,false]) (by kernel_rfl) ?_
        exact hK0.out _ _ _ _ _ _ _ _ _ _ _ _ _ _ _ (H.out.rgn T.out)
      ·go_simp
       obtain ⟨A8,hA⟩:∃ a,a = v17.heap.size:=⟨_,rfl⟩
       obtain ⟨v23,hv⟩:∃ x,x = v17.alloc BR0:=⟨_,rfl⟩
       replace H:Hid (Stg W v23 _ _):=H.out.new8 hv hA
       rw [← hv,← hA]
       clear hv hA
       refine hK _ _ (H.out.cell HA0.out) ?_
       clear hK K
       try simp only [Act.put,qX,qY,qZ]
       refine Fst.s1 0 (fun K hK=>?_)
       go_simp
       refine (svs_new _).mono ?_
       rintro e v24 ⟨ap,n,cp,rfl,hs,hb⟩
       have T:Hid (Svs _ v24 _ _ _ _):=H.out.fresh hs
       replace H:Hid (Stg W v24 _ _):=H.out.call hb
       clear hs hb
       refine hK _ _ (H.out.cell HA0.out) ?_
       clear hK K
       try simp only [Act.put,qX,qY,qZ]
       refine Fst.s1 3 (fun K hK=>?_)
       go_simp
       refine (svs_do (cl:=0) (c:=Nf.c1) T.out Nf.rx_new (by unfold fits maxLen;decide) Nf.first_o.1 Nf.first_o.2.1 Nf.first_o.2.2.1 Nf.first_o.2.2.2.1).mono ?_
       rintro e v25 ⟨ep,en,ec,up,un,uc,op,on,oc,rfl,hs,hb⟩
       replace T:Hid (Svs _ v25 _ _ _ _):=H.out.keep hs
       replace H:Hid (Stg W v25 _ _):=H.out.call hb
       clear hs hb
       refine hK _ _ (H.out.cell HA0.out) ?_
       clear hK K
       try simp only [Act.put,qX,qY,qZ]
       refine Fst.tp (i:=4) rfl (H.out.cell HA0.out) ?_
       try simp only [Act.put,qX,qY,qZ]
       refine Fst.tp (i:=5) rfl (H.out.cell HA0.out) ?_
       try simp only [Act.put,qX,qY,qZ]
       refine Fst.tp (i:=6) rfl (H.out.cell HA0.out) ?_
       try simp only [Act.put,qX,qY,qZ]
       refine Fst.rest (by kernel_rfl) ?_
       refine wpAny_l (l':=#[true,true,true,true,true,true,true,true,true,false,false]) (by kernel_rfl) ?_
       exact hK0.out _ _ _ _ _ _ _ _ _ _ _ _ _ _ _ (H.out.rgn T.out)
     ·go_simp
      obtain ⟨A8,hA⟩:∃ a,a = W.heap.size:=⟨_,rfl⟩
      obtain ⟨v26,hv⟩:∃ x,x = (W.alloc BR0).drew:=⟨_,rfl⟩
      replace H:Hid (Stg W v26 _ _):=H.out.new8 (by rw [hv];rfl) hA
      rw [← hv,← hA]
      clear hv hA
      refine hK _ _ (H.out.cell HA0.out) ?_
      clear hK K
      try simp only [Act.put,qX,qY,qZ]
      refine Fst.s2 0 7 (fun K hK=>?_) (fun K hK=>?_)
      ·go_simp
       refine (svs_new _).mono ?_
       rintro e v27 ⟨ap,n,cp,rfl,hs,hb⟩
       have T:Hid (Svs _ v27 _ _ _ _):=H.out.fresh hs
       replace H:Hid (Stg W v27 _ _):=H.out.call hb
       clear hs hb
       refine hK _ _ (H.out.cell HA0.out) ?_
       clear hK K
       try simp only [Act.put,qX,qY,qZ]
       refine Fst.s2 3 7 (fun K hK=>?_) (fun K hK=>?_)
       ·go_simp
        refine (svs_do (cl:=0) (c:=Nf.c1) T.out Nf.rx_new (by unfold fits maxLen;decide) Nf.first_o.1 Nf.first_o.2.1 Nf.first_o.2.2.1 Nf.first_o.2.2.2.1).mono ?_
        rintro e v28 ⟨ep,en,ec,up,un,uc,op,on,oc,rfl,hs,hb⟩
        replace T:Hid (Svs _ v28 _ _ _ _):=H.out.keep hs
        replace H:Hid (Stg W v28 _ _):=H.out.call hb
        clear hs hb
        refine hK _ _ (H.out.cell HA0.out) ?_
        clear hK K
        try simp only [Act.put,qX,qY,qZ]
        refine Fst.tp (i:=4) rfl (H.out.cell HA0.out) ?_
        try simp only [Act.put,qX,qY,qZ]
        refine Fst.tp (i:=5) rfl (H.out.cell HA0.out) ?_
        try simp only [Act.put,qX,qY,qZ]
        refine Fst.tp (i:=6) rfl (H.out.cell HA0.out) ?_
        try simp only [Act.put,qX,qY,qZ]
        refine Fst.s1 7 (fun K hK=>?_)
        go_simp
        obtain ⟨A7,hA⟩:∃ a,a = v28.heap.size:=⟨_,rfl⟩
        obtain ⟨v29,hv⟩:∃ x,x = v28.alloc BS0:=⟨_,rfl⟩
        replace T:Hid (Svs _ v29 _ _ _ _):=svs7 T.out hv
        replace H:Hid (Stg W v29 _ _):=H.out.new7 hv hA
        rw [← hv,← hA]
        clear hv hA
        refine hK _ _ (H.out.cell HA0.out) ?_
        clear hK K
        try simp only [Act.put,qX,qY,qZ]
        refine Fst.rest (by kernel_rfl) ?_
        refine wpAny_l (l':=#[true,true,true,true,true,true,true,true,true,false,false]) (by kernel_rfl) ?_
        exact hK0.out _ _ _ _ _ _ _ _ _ _ _ _ _ _ _ (H.out.rgn T.out)
       ·go_simp
        obtain ⟨A7,hA⟩:∃ a,a = v27.heap.size:=⟨_,rfl⟩
        obtain ⟨v30,hv⟩:∃ x,x = v27.alloc BS0:=⟨_,rfl⟩
        replace T:Hid (Svs _ v30 _ _ _ _):=svs7 T.out hv
        replace H:Hid (Stg W v30 _ _):=H.out.new7 hv hA
        rw [← hv,← hA]
        clear hv hA
        refine hK _ _ (H.out.cell HA0.out) ?_
        clear hK K
        try simp only [Act.put,qX,qY,qZ]
        refine Fst.s1 3 (fun K hK=>?_)
        go_simp
        refine (svs_do (cl:=0) (c:=Nf.c1) T.out Nf.rx_new (by unfold fits maxLen;decide) Nf.first_o.1 Nf.first_o.2.1 Nf.first_o.2.2.1 Nf.first_o.2.2.2.1).mono ?_
        rintro e v31 ⟨ep,en,ec,up,un,uc,op,on,oc,rfl,hs,hb⟩
        replace T:Hid (Svs _ v31 _ _ _ _):=H.out.keep hs
        replace H:Hid (Stg W v31 _ _):=H.out.call hb
        clear hs hb
        refine hK _ _ (H.out.cell HA0.out) ?_
        clear hK K
        try simp only [Act.put,qX,qY,qZ]
        refine Fst.tp (i:=4) rfl (H.out.cell HA0.out) ?_
        try simp only [Act.put,qX,qY,qZ]
        refine Fst.tp (i:=5) rfl (H.out.cell HA0.out) ?_
        try simp only [Act.put,qX,qY,qZ]
        refine Fst.tp (i:=6) rfl (H.out.cell HA0.out) ?_
        try simp only [Act.put,qX,qY,qZ]
        refine Fst.rest (by kernel_rfl) ?_
        refine wpAny_l (l':=#[true,true,true,true,true,true,true,true,true,false,false]) (by kernel_rfl) ?_
        exact hK0.out _ _ _ _ _ _ _ _ _ _ _ _ _ _ _ (H.out.rgn T.out)
      ·go_simp
       obtain ⟨A7,hA⟩:∃ a,a = v26.heap.size:=⟨_,rfl⟩
       obtain ⟨v32,hv⟩:∃ x,x = v26.alloc BS0:=⟨_,rfl⟩
       replace H:Hid (Stg W v32 _ _):=H.out.new7 hv hA
       rw [← hv,← hA]
       clear hv hA
       refine hK _ _ (H.out.cell HA0.out) ?_
       clear hK K
       try simp only [Act.put,qX,qY,qZ]
       refine Fst.s1 0 (fun K hK=>?_)
       go_simp
       refine (svs_new _).mono ?_
       rintro e v33 ⟨ap,n,cp,rfl,hs,hb⟩
       have T:Hid (Svs _ v33 _ _ _ _):=H.out.fresh hs
       replace H:Hid (Stg W v33 _ _):=H.out.call hb
       clear hs hb
       refine hK _ _ (H.out.cell HA0.out) ?_
       clear hK K
       try simp only [Act.put,qX,qY,qZ]
       refine Fst.s1 3 (fun K hK=>?_)
       go_simp
       refine (svs_do (cl:=0) (c:=Nf.c1) T.out Nf.rx_new (by unfold fits maxLen;decide) Nf.first_o.1 Nf.first_o.2.1 Nf.first_o.2.2.1 Nf.first_o.2.2.2.1).mono ?_
       rintro e v34 ⟨ep,en,ec,up,un,uc,op,on,oc,rfl,hs,hb⟩
       replace T:Hid (Svs _ v34 _ _ _ _):=H.out.keep hs
       replace H:Hid (Stg W v34 _ _):=H.out.call hb
       clear hs hb
       refine hK _ _ (H.out.cell HA0.out) ?_
       clear hK K
       try simp only [Act.put,qX,qY,qZ]
       refine Fst.tp (i:=4) rfl (H.out.cell HA0.out) ?_
       try simp only [Act.put,qX,qY,qZ]
       refine Fst.tp (i:=5) rfl (H.out.cell HA0.out) ?_
       try simp only [Act.put,qX,qY,qZ]
       refine Fst.tp (i:=6) rfl (H.out.cell HA0.out) ?_
       try simp only [Act.put,qX,qY,qZ]
       refine Fst.rest (by kernel_rfl) ?_
       refine wpAny_l (l':=#[true,true,true,true,true,true,true,true,true,false,false]) (by kernel_rfl) ?_
       exact hK0.out _ _ _ _ _ _ _ _ _ _ _ _ _ _ _ (H.out.rgn T.out)
    intro ap n cp ep en ec up un uc op on oc A7 A8 U HR
    obtain ⟨f0,f1,f2,f3⟩:=st_of HR.out.h7
    have ff:=fr_at HR.out.h7
    obtain ⟨g0,g1,g2,g3,g4,g5,g6,g7,g8,g9⟩:=rp_of HR.out.h8
    have gg:=fr_at HR.out.h8
    have h78:=HR.out.ne
    refine wpAny_ready (rs:=[9]) (by kernel_rfl) (by simp) ?_
    refine AllReady.cons rfl (fun K hK=>?_) AllReady.nil
    go_simp
    (try go_wp2_with fail)
    first | (refine hK _ _ ?_;clear hK K) | skip
    try simp only [Act.put,qX,qY,qZ]
    refine wpAny_ready (rs:=[10]) (by kernel_rfl) (by simp) ?_
    refine AllReady.cons rfl (fun K hK=>?_) AllReady.nil
    go_simp
    (try go_wp2_with fail)
    first | (refine hK _ _ ?_;clear hK K) | skip
    try simp only [Act.put,qX,qY,qZ]
    refine wpAny_done (by kernel_rfl) ?_ _
    obtain ⟨U2,hU2⟩:∃ U2,U2 = ((((((((((((((U.setCell ⟨A7,0,none⟩ (.slice up un uc)).setCell ⟨A7,1,none⟩ (.slice op on oc)).setCell ⟨A7,2,none⟩ (.slice none 0 0)).setCell ⟨A7,3,none⟩ (.int .i64 1)).setCell ⟨A8,0,none⟩ (.int .i64 0)).setCell ⟨A8,1,none⟩ (.int .i64 1)).setCell ⟨A8,2,none⟩ (.int .i64 1)).setCell ⟨A8,3,none⟩ (.int .i64 1)).setCell ⟨A8,4,none⟩ (.int .i64 1)).setCell ⟨A8,5,none⟩ (.int .i64 0)).setCell ⟨A8,6,none⟩ (.int .i64 1)).setCell ⟨A8,7,none⟩ (.string Nf.e0)).setCell ⟨A8,8,none⟩ (.slice ep en ec)).setCell ⟨A8,9,none⟩ (.int .i64 0)):=⟨_,rfl⟩
    rw [← hU2]
    have H:Hid (Big W U2 A7 (.slice up un uc) (.slice op on oc) 1 (.slice up un uc) (.slice op on oc) _ [] [(R,BH2 0 1),(A8,BRl (⟨0,1,1,1,1,0,1,Nf.e0,[],0⟩:Nf.Rpl) (.slice ep en ec))]):=HR.out.big hU2 hwW HA0.out
    clear hU2 HR f0 f1 f2 f3 ff g0 g1 g2 g3 g4 g5 g6 g7 g8 g9 gg h78
    have HX1:Hid (Nf.RX (Nf.F1s Nf.xA) (Nf.opl 0 (l.take 0)) (1 + ((0:Nat):Int)) (fun _=>False)):=Nf.first_o.2.2.2.2
    go_wp2_with fail
    go_loopw [63] (fun i wr=>∃ (k:Nat) (p q:Option Addr) (m z m2 z2:Nat),k<=N/\i = .int .i64 k/\Hid (Big W wr A7 (.slice p m z) (.slice q m2 z2) (1 + (k:Int)) (.slice p m z) (.slice q m2 z2) (Nf.F1s Nf.xA) (Nf.opl 0 (l.take k)) [(R,BH2 0 1),(A8,BRl ⟨0,1,1,1,1,0,1,Nf.e0,[],0⟩ (.slice ep en ec))])/\Hid (Nf.RX (Nf.F1s Nf.xA) (Nf.opl 0 (l.take k)) (1 + (k:Int)) (fun _=>False))) (fun i _=>N - (intOf i).toNat)
    case atStart=>exact ⟨0,_,_,_,_,_,_,Nat.zero_le _,rfl,H,HX1⟩
    case round =>
     obtain ⟨k,p,q,m,z,m2,z2,hk,rfl,H,HR⟩:=hrel
     obtain ⟨t0,t1,t2,t3⟩:=st_of H.out.st
     have tf:=fr_at H.out.st
     have tl:=(qL H.out.st)
     obtain ⟨k0,kn,kl⟩:=H.out.at 0 rfl
     have k1:=cell_at k0 1
     replace k0:=cell_at k0 0
     simp at k0 k1
     obtain ⟨g0,gn,gl⟩:=H.out.at 1 rfl
     obtain ⟨g0,g1',g2',g3',g4,g5,g6,g7,g8,g9⟩:=rp_of g0
     by_cases hlt:k < N
     ·obtain ⟨x,hxk⟩:∃ x,l[k]? = some x:=⟨_,List.getElem?_eq_getElem (by rw [HN.out];exact hlt)⟩
      obtain ⟨b,off,rfl,-,hbl,hc⟩:=HX.out k x hxk
      have hbw:=HB0.out.trans (H.out.bl.mono HB0.out.size)
      have c0:wr.cell? ⟨b,off + k,none⟩ = some (.int .i64 x):=(hbw.cell (p:=⟨b,off + k,none⟩) hbl).trans (by have h:=hc 0 _ rfl;simpa [E1] using h)
      have hlt':(k:Int) < (N:Int):=by omega
      have htk:l.take (k + 1) = l.take k ++ [x]:=by rw [List.take_add_one,hxk];rfl
      have hlk:(l.take k).length = k:=by rw [List.length_take,HN.out];omega
      have hop:=Nf.opened_s (cs:=l.take k) (c:=x) HR.out (by have h:=HG.out;omega) (fun y hy=>HCL.out y (by rw [← htk] at hy;exact List.mem_of_mem_take hy)) (by have h:=HG.out;omega)
      rw [hlk,← htk,show (1:Int) + k + 1 = 1 + ((k + 1:Nat):Int) by omega] at hop
      have HOP:Hid _:=hop
      clear hc hxk hbw htk hlk hop
      go_wp2_with fail
      refine (sv_do (cl:=x) (c:=Nf.cOp) H.out.sv HR.out ⟨by decide,by decide,by decide⟩ HOP.out.1 HOP.out.2.1 HOP.out.2.2.1 HOP.out.2.2.2.1).mono ?_
      rintro e w4 ⟨ep4,en4,ec4,up4,un4,uc4,op4,on4,oc4,rfl,hs,-,hb⟩
      replace H:Hid (Big W w4 A7 _ _ _ _ _ _ _ _):=H.out.call hb hs
      clear t0 t1 t2 t3 tf tl k0 k1 kn kl g0 g1' g2' g3' g4 g5 g6 g7 g8 g9 gn gl hs hb c0
      obtain ⟨t0,t1,t2,t3⟩:=st_of H.out.st
      have tf:=fr_at H.out.st
      have tl:=(qL H.out.st)
      go_wp2
      go_roundw
      case rel=>exact ⟨k + 1,up4,op4,un4,uc4,on4,oc4,by omega,by go_num,H.out.two (o:=BSt (.slice up4 un4 uc4) (.slice op4 on4 oc4) (.slice none 0 0) (1 + ((k + 1:Nat):Int))) (o2:=BRl ⟨0,0,0,0,0,0,0,Nf.e0,[],(k:Int)⟩ (.slice ep4 en4 ec4)) rfl,HOP.out.2.2.2.2⟩
      case measure=>simp [intOf];omega
     ·obtain rfl:N = k:=by omega
      have hR2:=HR.out
      rw [List.take_of_length_le (by rw [HN.out];exact Nat.le_refl _)] at hR2
      have hH:=H.out
      rw [List.take_of_length_le (by rw [HN.out];exact Nat.le_refl _)] at hH
      have hun:=Nf.unlinked (d:=d) hR2 (by have h:=HG.out;omega) (by intro e;have h:=HG.out.1;rw [← HN.out,e] at h;exact absurd h (by decide))
      obtain ⟨D0,hD0⟩:∃ D0,2 + (N:Int) + 3 * ((0:Nat):Int) = D0:=⟨_,rfl⟩
      rw [show (1:Int) + N + 1 = D0 by omega] at hun
      have HD0:Hid (2 + (N:Int) + 3 * ((0:Nat):Int) = D0):=hD0
      clear hD0
      obtain ⟨⟨ue,uno,ugen,uk,ul,us,ut,ud,uen,un'⟩,hU⟩:∃ R,Nf.doR (Nf.F1s Nf.xA) (Nf.opl 0 l) (1 + (N:Int)) 0 Nf.cUn = R:=⟨_,rfl⟩
      obtain ⟨T,hT⟩:∃ T,Nf.doT (Nf.F1s Nf.xA) (Nf.opl 0 l) (1 + (N:Int)) 0 Nf.cUn = T:=⟨_,rfl⟩
      rw [hU,hT] at hun
      have he:ue = 0:=hun.1
      subst he
      have HUN:Hid _:=hun
      have HU:Hid _:=hU
      have HT:Hid _:=hT
      have HR2:Hid _:=hR2
      replace H:Hid (Big W wr A7 _ _ _ _ _ _ _ _):=hH
      clear hun hU hT hR2 hH HR
      go_wp2_with fail
      refine (sv_do (cl:=0) (c:=Nf.cUn) H.out.sv HR2.out ⟨by decide,by decide,by decide⟩ HU.out HT.out HUN.out.2.1 HUN.out.2.2.1).mono ?_
      rintro e w4 ⟨ep4,en4,ec4,up4,un4,uc4,op4,on4,oc4,rfl,hs,-,hb⟩
      replace H:Hid (Big W w4 A7 _ _ _ _ _ _ _ _):=H.out.call hb hs
      clear t0 t1 t2 t3 tf tl k0 k1 kn kl g0 g1' g2' g3' g4 g5 g6 g7 g8 g9 gn gl hs hb
      obtain ⟨t0,t1,t2,t3⟩:=st_of H.out.st
      have tf:=fr_at H.out.st
      have tl:=(qL H.out.st)
      obtain ⟨g0,gn,gl⟩:=H.out.at 1 rfl
      obtain ⟨g0,g1',g2',g3',g4,g5,g6,g7,g8,g9⟩:=rp_of g0
      go_wp2_with fail
      obtain ⟨U,hU⟩:∃ U,U = ((((w4.setCell ⟨A7,0,none⟩ (.slice up4 un4 uc4)).setCell ⟨A7,1,none⟩ (.slice op4 on4 oc4)).setCell ⟨A7,2,none⟩ (.slice none 0 0)).setCell ⟨A7,3,none⟩ (.int .i64 D0)).alloc (BRl ⟨0,uno,ugen,uk,ul,us,ut,ud,uen,un'⟩ (.slice ep4 en4 ec4)):=⟨_,rfl⟩
      have hL:=(H.out.store (D':=D0) (o:=BRl ⟨0,uno,ugen,uk,ul,us,ut,ud,uen,un'⟩ (.slice ep4 en4 ec4)) hU rfl).sub (l':=[(R,BH2 0 1),(A8,BRl ⟨0,1,1,1,1,0,1,Nf.e0,[],0⟩ (.slice ep en ec))]) (fun p hp=>List.mem_append_left _ hp)
      replace H:Hid (Big W U A7 _ _ _ _ _ _ _ _):=hL
      rw [← hU]
      clear hU hL t0 t1 t2 t3 tf tl g0 g1' g2' g3' g4 g5 g6 g7 g8 g9 gn gl
      go_loopw [105] (fun i wr=>∃ (k:Nat) (p q:Option Addr) (m z m2 z2:Nat) (T:List Ino),k<=N/\i = .int .i64 k/\Hid (Big W wr A7 (.slice p m z) (.slice q m2 z2) (2 + (N:Int) + 3 * (k:Int)) (.slice p m z) (.slice q m2 z2) T (Nf.opl k (l.drop k)) [(R,BH2 0 1),(A8,BRl ⟨0,1,1,1,1,0,1,Nf.e0,[],0⟩ (.slice ep en ec))])/\Hid (Nf.RX T (Nf.opl k (l.drop k)) (2 + (N:Int) + 3 * (k:Int)) (fun _=>False)/\(k < N->Nf.Fil T d)/\(k = N->names T 1 1 = false))) (fun i _=>N - (intOf i).toNat)
      case atStart =>
       have HH:Hid (Big W U A7 (.slice up4 un4 uc4) (.slice op4 on4 oc4) (2 + (N:Int) + 3 * ((0:Nat):Int)) (.slice up4 un4 uc4) (.slice op4 on4 oc4) T (Nf.opl 0 l) [(R,BH2 0 1),(A8,BRl ⟨0,1,1,1,1,0,1,Nf.e0,[],0⟩ (.slice ep en ec))]):=by rw [HD0.out];exact H
       have HQ:Nf.RX T (Nf.opl 0 l) (2 + (N:Int) + 3 * ((0:Nat):Int)) (fun _=>False):=by rw [HD0.out];exact HUN.out.2.2.2.1
       exact ⟨0,_,_,_,_,_,_,T,Nat.zero_le _,rfl,HH,HQ,fun _=>HUN.out.2.2.2.2,fun e=>absurd HG.out.1 (by omega)⟩
      case round =>
       obtain ⟨k,p,q,m,z,m2,z2,T,hk,rfl,H,HR⟩:=hrel
       obtain ⟨t0,t1,t2,t3⟩:=st_of H.out.st
       have tf:=fr_at H.out.st
       have tl:=(qL H.out.st)
       obtain ⟨g0,gn,gl⟩:=H.out.at 1 rfl
       obtain ⟨g0,g1',g2',g3',g4,g5,g6,g7,g8,g9⟩:=rp_of g0
       by_cases hlt:k < N
       ·obtain ⟨x,hxk⟩:∃ x,l[k]? = some x:=⟨_,List.getElem?_eq_getElem (by rw [HN.out];exact hlt)⟩
        obtain ⟨b,off,rfl,-,hbl,hc⟩:=HX.out k x hxk
        have hbw:=HB0.out.trans (H.out.bl.mono HB0.out.size)
        have c0:wr.cell? ⟨b,off + k,none⟩ = some (.int .i64 x):=(hbw.cell (p:=⟨b,off + k,none⟩) hbl).trans (by have h:=hc 0 _ rfl;simpa [E1] using h)
        have hlt':(k:Int) < (N:Int):=by omega
        have hN16:=HG.out.2.1
        have hdr:l.drop k = x :: l.drop (k + 1):=Os.Op.drop_at hxk
        obtain ⟨D,hD⟩:∃ D,2 + (N:Int) + 3 * (k:Int) = D:=⟨_,rfl⟩
        have hDl:D < 1099511627000:=by omega
        have hD3:D + 1 + 1 + 1 = 2 + (N:Int) + 3 * ((k + 1:Nat):Int):=by omega
        have hHR:=HR.out
        rw [hD] at hHR
        rw [hD] at H t3
        obtain ⟨R1,hR1⟩:∃ r,Nf.doR T (Nf.opl k (l.drop k)) D 3 (Nf.cW 0 d) = r:=⟨_,rfl⟩
        obtain ⟨T1,hT1⟩:∃ r,Nf.doT T (Nf.opl k (l.drop k)) D 3 (Nf.cW 0 d) = r:=⟨_,rfl⟩
        have fw:=Nf.fil_write hHR.1 (by omega) (hHR.2.1 hlt) HG.out.2.2
        rw [hR1,hT1] at fw
        obtain ⟨a1,a2,a3,a4,a5,y,a6,a7,a8,a9⟩:=fw
        obtain ⟨R2,hR2⟩:∃ r,Nf.doR T1 (Nf.opl k (l.drop k)) (D + 1) 4 (Nf.cR' 0) = r:=⟨_,rfl⟩
        have fr:=Nf.fil_read a4 (by omega) a6 a7 a8 a9
        rw [hR2] at fr
        obtain ⟨b1,b2,b3,b4,b5,b6⟩:=fr
        have b6':=b6
        rw [hdr] at b6'
        have fc:=Nf.fil_close b6' (by omega) (HCL.out x (List.mem_of_getElem? hxk)) (by omega) a5
        rw [← hdr,hD3] at fc
        obtain ⟨R3,hR3⟩:∃ r,Nf.doR T1 (Nf.opl k (l.drop k)) (D + 1 + 1) x (Nf.cCl k) = r:=⟨_,rfl⟩
        obtain ⟨T3,hT3⟩:∃ r,Nf.doT T1 (Nf.opl k (l.drop k)) (D + 1 + 1) x (Nf.cCl k) = r:=⟨_,rfl⟩
        rw [hR3,hT3] at fc
        obtain ⟨f1,f2,f3,f4,f5,f6⟩:=fc
        obtain ⟨e1,no1,gen1,k1,l1,s1,st1,d1,en1,n1⟩:=R1
        obtain ⟨e2,no2,gen2,k2,l2,s2,st2,d2,en2,n2⟩:=R2
        obtain ⟨e3,no3,gen3,k3,l3,s3,st3,d3,en3,n3⟩:=R3
        have a1':e1 = 0:=a1
        have b1':e2 = 0:=b1
        have b2':d2 = d:=b2
        have f1':e3 = 0:=f1
        subst a1' b1' b2' f1'
        have HNX:Hid (Nf.RX T3 (Nf.opl (k + 1) (l.drop (k + 1))) (2 + (N:Int) + 3 * ((k + 1:Nat):Int)) (fun _=>False)/\(k + 1 < N->Nf.Fil T3 d2)/\(k + 1 = N->names T3 1 1 = false)):=⟨f4,fun h=>f5 (fun e=>by have h2:=congrArg List.length e;rw [List.length_drop,HN.out] at h2;simp at h2;omega),fun h=>f6 (List.drop_of_length_le (by rw [HN.out];omega))⟩
        have HC1:Hid (∀ (W':World) (u uo:Value),Sv W' u uo T (Nf.opl k (l.drop k))->Calls Tryz.prog 11 #[VSt u uo (.slice none 0 0) D,.int .i64 3,Ks.VC (Nf.cW 0 d2)] W' _):=fun W' u uo h=>sv_do (cl:=3) (c:=Nf.cW 0 d2) h hHR.1 ⟨e0_le,e0_le,by show d2.size<=_;unfold maxLen;omega⟩ hR1 hT1 a2 a3
        have HC2:Hid (∀ (W':World) (u uo:Value),Sv W' u uo T1 (Nf.opl k (l.drop k))->Calls Tryz.prog 11 #[VSt u uo (.slice none 0 0) (D + 1),.int .i64 4,Ks.VC (Nf.cR' 0)] W' _):=fun W' u uo h=>sv_do (cl:=4) (c:=Nf.cR' 0) h a4 ⟨e0_le,e0_le,e0_le⟩ hR2 b3 b4 b5
        have HC3:Hid (∀ (W':World) (u uo:Value),Sv W' u uo T1 (Nf.opl k (l.drop k))->Calls Tryz.prog 11 #[VSt u uo (.slice none 0 0) (D + 1 + 1),.int .i64 x,Ks.VC (Nf.cCl k)] W' _):=fun W' u uo h=>sv_do (cl:=x) (c:=Nf.cCl k) h b6 ⟨e0_le,e0_le,e0_le⟩ hR3 hT3 f2 f3
        clear hc hxk hbw hHR hR1 hT1 hR2 hR3 hT3 a1 a2 a3 a4 a5 a6 a7 a8 a9 b1 b2 b3 b4 b5 b6 b6' f1 f2 f3 f4 f5 f6 hdr hD hDl HR
        go_wp2_with fail
        refine (HC1.out _ _ _ H.out.sv).mono ?_
        rintro e w4 ⟨ep5,en5,ec5,up5,un5,uc5,op5,on5,oc5,rfl,hs,-,hb⟩
        replace H:Hid (Big W w4 A7 _ _ _ _ _ _ _ _):=H.out.call hb hs
        clear t0 t1 t2 t3 tf tl g0 g1' g2' g3' g4 g5 g6 g7 g8 g9 gn gl hs hb c0 HC1
        obtain ⟨X1,hX⟩:∃ X,X = (w4.alloc (BSt (.slice up5 un5 uc5) (.slice op5 on5 oc5) (.slice none 0 0) (D + 1))).alloc (BRl ⟨0,no1,gen1,k1,l1,s1,st1,d1,en1,n1⟩ (.slice ep5 en5 ec5)):=⟨_,rfl⟩
        obtain ⟨B17,h17⟩:∃ a,a = w4.heap.size:=⟨_,rfl⟩
        obtain ⟨B18,h18⟩:∃ a,a = w4.heap.size + 1:=⟨_,rfl⟩
        have HL:Hid (Big W X1 A7 _ _ _ _ _ _ _ _):=H.out.lay hX h17 h18
        have HE:Hid (X1 = (w4.alloc (BSt (.slice up5 un5 uc5) (.slice op5 on5 oc5) (.slice none 0 0) (D + 1))).alloc (BRl ⟨0,no1,gen1,k1,l1,s1,st1,d1,en1,n1⟩ (.slice ep5 en5 ec5))/\B17 = w4.heap.size/\B18 = w4.heap.size + 1):=⟨hX,h17,h18⟩
        clear hX h17 h18
        obtain ⟨g0,gn,gl⟩:=H.out.at 1 rfl
        obtain ⟨g0,g1',g2',g3',g4,g5,g6,g7,g8,g9⟩:=rp_of g0
        go_wp2_with fail
        rw [← HE.out.1,← HE.out.2.2,← HE.out.2.1]
        clear g0 g1' g2' g3' g4 g5 g6 g7 g8 g9 gn gl HE
        refine (HC2.out _ _ _ HL.out.sv).mono ?_
        rintro e w5 ⟨ep6,en6,ec6,up6,un6,uc6,op6,on6,oc6,rfl,hs,-,hb⟩
        replace H:Hid (Big W w5 A7 _ _ _ _ _ _ _ _):=HL.out.call hb hs
        clear hs hb HC2 HL
        obtain ⟨X2,hX⟩:∃ X,X = (w5.alloc (BSt (.slice up6 un6 uc6) (.slice op6 on6 oc6) (.slice none 0 0) (D + 1 + 1))).alloc (BRl ⟨0,no2,gen2,k2,l2,s2,st2,d2,en2,n2⟩ (.slice ep6 en6 ec6)):=⟨_,rfl⟩
        obtain ⟨B19,h19⟩:∃ a,a = w5.heap.size:=⟨_,rfl⟩
        obtain ⟨B20,h20⟩:∃ a,a = w5.heap.size + 1:=⟨_,rfl⟩
        have HL:Hid (Big W X2 A7 _ _ _ _ _ _ _ _):=H.out.lay hX h19 h20
        have HE:Hid (X2 = (w5.alloc (BSt (.slice up6 un6 uc6) (.slice op6 on6 oc6) (.slice none 0 0) (D + 1 + 1))).alloc (BRl ⟨0,no2,gen2,k2,l2,s2,st2,d2,en2,n2⟩ (.slice ep6 en6 ec6))/\B19 = w5.heap.size/\B20 = w5.heap.size + 1):=⟨hX,h19,h20⟩
        clear hX h19 h20
        go_wp2_with fail
        rw [← HE.out.1,← HE.out.2.2,← HE.out.2.1]
        clear HE H
        refine (HC3.out _ _ _ HL.out.sv).mono ?_
        rintro e w6 ⟨ep7,en7,ec7,up7,un7,uc7,op7,on7,oc7,rfl,hs,-,hb⟩
        have H:Hid (Big W w6 A7 _ _ _ _ _ _ _ _):=HL.out.call hb hs
        clear hs hb HC3 HL
        obtain ⟨t0,t1,t2,t3⟩:=st_of H.out.st
        have tf:=fr_at H.out.st
        have tl:=(qL H.out.st)
        obtain ⟨z3,zn3,zl3⟩:=H.out.at 3 rfl
        replace z3:=cell_at z3 0
        simp at z3
        obtain ⟨z5,zn5,zl5⟩:=H.out.at 5 rfl
        obtain ⟨z0,y1,y2,y3,y4,y5,y6,y7,y8,y9⟩:=rp_of z5
        clear z5
        go_wp2
        go_roundw
        case rel=>exact ⟨k + 1,up7,op7,un7,uc7,on7,oc7,T3,by omega,by go_num,(H.out.two (D':=2 + (N:Int) + 3 * ((k + 1:Nat):Int)) (o:=BSt (.slice up7 un7 uc7) (.slice op7 on7 oc7) (.slice none 0 0) (2 + (N:Int) + 3 * ((k + 1:Nat):Int))) (o2:=BRl ⟨0,no3,gen3,k3,l3,s3,st3,d3,en3,n3⟩ (.slice ep7 en7 ec7)) rfl).sub (fun p hp=>List.mem_append_left _ (List.mem_append_left _ hp)),HNX⟩
        case measure=>simp [intOf];omega
       ·obtain rfl:N = k:=by omega
        have hO:Nf.opl N (l.drop N) = []:=by rw [List.drop_of_length_le (by rw [HN.out];exact Nat.le_refl _)];rfl
        have hH:=H.out
        have hHR:=HR.out
        rw [hO] at hH hHR
        have hN16:=HG.out.2.1
        obtain ⟨f1,f2⟩:=Nf.gone_attr hHR.1 (by omega) (hHR.2.2 rfl)
        obtain ⟨⟨e3,no3,gen3,k3,l3,s3,st3,d3,en3,n3⟩,hR3⟩:∃ r,Nf.doR T [] (2 + (N:Int) + 3 * (N:Int)) 4 Nf.cAt = r:=⟨_,rfl⟩
        rw [hR3] at f1
        have f1':e3 = 401:=f1
        subst f1'
        have HC3:Hid (∀ (W':World) (u uo:Value),Sv W' u uo T []->Calls Tryz.prog 11 #[VSt u uo (.slice none 0 0) (2 + (N:Int) + 3 * (N:Int)),.int .i64 4,Ks.VC Nf.cAt] W' _):=fun W' u uo h=>sv_do (cl:=4) (c:=Nf.cAt) h hHR.1 ⟨e0_le,e0_le,e0_le⟩ hR3 rfl f2 rfl
        have HSV:Hid (Sv wr (.slice p m z) (.slice q m2 z2) T []):=hH.sv
        clear f1 f2 hR3 hH hHR hO
        go_wp2_with fail
        refine (HC3.out _ _ _ HSV.out).mono ?_
        rintro e w6 ⟨ep7,en7,ec7,up7,un7,uc7,op7,on7,oc7,rfl,hs,-,hb⟩
        obtain ⟨L,-,-,h3⟩:=hs
        obtain ⟨_,_,hq,-,-⟩:=h3.open
        have hon:on7 = 0:=by injection hq
        clear hq h3 L
        subst hon
        have HBB:Hid (Below w.heap.size w w6):=HB0.out.trans ((H.out.bl.trans (hb.mono H.out.bl.size)).mono HB0.out.size)
        clear hb t0 t1 t2 t3 tf tl g0 g1' g2' g3' g4 g5 g6 g7 g8 g9 gn gl HC3
        go_wp2_with fail
        refine (orphan_any _).mono ?_
        rintro e w7 ⟨rfl,hb⟩
        have HBZ:Hid (Below w.heap.size w w7):=HBB.out.trans (((two_st w6 _ _).trans (hb.mono (two_st w6 _ _).size)).mono HBB.out.size)
        clear hb
        go_wp2
        go_ret
        exact ⟨rfl,HBZ.out⟩
 ·have hor:(N:Int) = 0∨(¬ (N:Int) = 0/\(16:Int) < (N:Int))∨(¬ (N:Int) = 0/\¬ (16:Int) < (N:Int)/\(512:Int) < (d.size:Int)):=by omega
  clear hg
  rcases hor with g1 | ⟨g1,g2⟩ | ⟨g1,g2,g3⟩
  all_goals
   go_enter Tryz.func7,Tryz.ntmps7
   go_wp2_with fail
   refine (orphan_any _).mono ?_
   rintro e w1 ⟨rfl,hb⟩
   go_wp2
   go_ret
   exact ⟨rfl,hb⟩
end Go.Proofs.YtneojimodomohaaGreat
