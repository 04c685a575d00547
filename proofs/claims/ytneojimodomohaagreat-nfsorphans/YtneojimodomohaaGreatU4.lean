/- NOq, So, as one. -/
import Derived.Test.YtneojimodomohaaGreatU3
namespace Go.Proofs.YtneojimodomohaaGreat
open Go.ChangeShapes Go.WideShapes Go.ChangeAt Go.RowKit Go.Deep It
set_option maxRecDepth 100000
abbrev R1:Nf.Rpl:=⟨0,1,1,1,1,0,1,⟨#[]⟩,[],0⟩
set_option linter.unusedSimpArgs false in
set_option maxHeartbeats 8000000 in
theorem orphan_any (w:World):Calls Tryz.prog 10 #[] w fun e w'=>e = .returned (.bool true)/\Below w.heap.size w w':=by
 obtain ⟨W,hW⟩:∃ W,W = w.alloc (BH2 0 1):=⟨_,rfl⟩
 have HB0:Hid (Below w.heap.size w W):=by show Below w.heap.size w W;rw [hW];exact (Below.refl _ w).alloc (Nat.le_refl _) _
 have HA0:Hid (W.heap[w.heap.size]? = some (BH2 0 1)):=by show W.heap[w.heap.size]? = _;rw [hW];exact heap_alloc_new _ _
 have hwW:w.heap.size < W.heap.size:=(qL HA0.out)
 go_enter Tryz.func10,Tryz.ntmps10
 go_wp2_with fail
 rw [← hW]
 clear hW
 apply cut_in
 ·intro hK0
  refine wp_region_any (by kernel_rfl) ?_
  change wpAny _ _ _ _ _ _ _ (World.drew _)
  have HS:(fun V:World=>V.heap[w.heap.size]? = some (BH2 0 1)) W.drew:=HA0.out
  refine Fst.any_of (late:=fun k=>[9,10].contains k) (S:=fun V:World=>V.heap[w.heap.size]? = some (BH2 0 1)) _ _ _ _ ?_
  refine Fst.tk (ls:=[9,10]) (i:=1) (v:=?v1) rfl (Or.inl ⟨by rfl,?h1⟩) HS ?r1
  case h1=>(intro V s;have s0:=cell_at s 0;have s1:=cell_at s 1;simp at s0 s1;go_simp;try with_reducible rfl)
  try simp only [Act.put,qX,qY,qZ]
  refine Fst.tp (i:=2) rfl (HS) ?_
  try simp only [Act.put,qX,qY,qZ]
  clear HS
  have H:Hid (Stg W W.drew none none):=⟨bel_drew (Below.refl _ _),fun _ h=>(by cases h),fun _ h=>(by cases h),fun _ _ h=>(by cases h)⟩
  refine Fst.s3 0 7 8 (fun K hK=>?_) (fun K hK=>?_) (fun K hK=>?_)
  ·go_simp
   refine (svs_new _).mono ?_
   rintro e v1 ⟨ap,n,cp,rfl,hs,hb⟩
   have T:Hid (Svs _ v1 _ _ _ _):=H.out.fresh hs
   replace H:Hid (Stg W v1 _ _):=H.out.call hb
   clear hs hb
   refine hK _ _ (H.out.cell HA0.out) ?_
   clear hK K
   try simp only [Act.put,qX,qY,qZ]
   refine Fst.s3 3 7 8 (fun K hK=>?_) (fun K hK=>?_) (fun K hK=>?_)
   ·go_simp
    refine (svs_do (cl:=5) (c:=Nf.c1) T.out Nf.rx_new (by unfold fits maxLen;decide) Nf.step1.1 Nf.step1.2.1 Nf.step1.2.2.1 Nf.step1.2.2.2).mono ?_
    rintro e v2 ⟨ep,en,ec,up,un,uc,op,on,oc,rfl,hs,hb⟩
    replace T:Hid (Svs _ v2 _ _ _ _):=H.out.keep hs
    replace H:Hid (Stg W v2 _ _):=H.out.call hb
    clear hs hb
    refine hK _ _ (H.out.cell HA0.out) ?_
    clear hK K
    try simp only [Act.put,qX,qY,qZ]
    refine Fst.tp (i:=4) rfl (H.out.cell HA0.out) ?_
    try simp only [Act.put,qX,qY,qZ]
    refine Fst.tp (i:=5) rfl (H.out.cell HA0.out) ?_
    try simp only [Act.put,qX,qY,qZ]
    refine Fst.tp (i:=6) rfl (H.out.cell HA0.out) ?_
    try simp only [Act.put,qX,qY,qZ]
    refine Fst.s2 7 8 (fun K hK=>?_) (fun K hK=>?_)
    ·go_simp
     obtain ⟨A7,hA⟩:∃ a,a = v2.heap.size:=⟨_,rfl⟩
     obtain ⟨v3,hv⟩:∃ x,x = v2.alloc BS0:=⟨_,rfl⟩
     replace T:Hid (Svs _ v3 _ _ _ _):=svs7 T.out hv
     replace H:Hid (Stg W v3 _ _):=H.out.new7 hv hA
     rw [← hv,← hA]
     clear hv hA
     refine hK _ _ (H.out.cell HA0.out) ?_
     clear hK K
     try simp only [Act.put,qX,qY,qZ]
     refine Fst.s1 8 (fun K hK=>?_)
     go_simp
     obtain ⟨A8,hA⟩:∃ a,a = v3.heap.size:=⟨_,rfl⟩
     obtain ⟨v4,hv⟩:∃ x,x = v3.alloc BR0:=⟨_,rfl⟩
     replace T:Hid (Svs _ v4 _ _ _ _):=svs8 T.out hv hA
     replace H:Hid (Stg W v4 _ _):=H.out.new8 hv hA
     rw [← hv,← hA]
     clear hv hA
     refine hK _ _ (H.out.cell HA0.out) ?_
     clear hK K
     try simp only [Act.put,qX,qY,qZ]
     refine Fst.rest (by kernel_rfl) ?_
     have HR:Hid (Rgn w.heap.size (BH2 0 1) v4 A7 A8 (.slice up un uc) (.slice op on oc) Nf.F1 [] W):=H.out.rgn T.out
     clear H T
     refine wpAny_l (l':=#[true,true,true,true,true,true,true,true,true,false,false]) (by kernel_rfl) ?_
     revert HR
     revert v4
     revert A8
     revert A7
     revert oc
     revert on
     revert op
     revert uc
     revert un
     revert up
     revert ec
     revert en
     revert ep
     revert cp
     revert n
     revert ap
     exact hK0.out
    ·go_simp
     obtain ⟨A8,hA⟩:∃ a,a = v2.heap.size:=⟨_,rfl⟩
     obtain ⟨v5,hv⟩:∃ x,x = v2.alloc BR0:=⟨_,rfl⟩
     replace T:Hid (Svs _ v5 _ _ _ _):=svs8 T.out hv hA
     replace H:Hid (Stg W v5 _ _):=H.out.new8 hv hA
     rw [← hv,← hA]
     clear hv hA
     refine hK _ _ (H.out.cell HA0.out) ?_
     clear hK K
     try simp only [Act.put,qX,qY,qZ]
     refine Fst.s1 7 (fun K hK=>?_)
     go_simp
     obtain ⟨A7,hA⟩:∃ a,a = v5.heap.size:=⟨_,rfl⟩
     obtain ⟨v6,hv⟩:∃ x,x = v5.alloc BS0:=⟨_,rfl⟩
     replace T:Hid (Svs _ v6 _ _ _ _):=svs7 T.out hv
     replace H:Hid (Stg W v6 _ _):=H.out.new7 hv hA
     rw [← hv,← hA]
     clear hv hA
     refine hK _ _ (H.out.cell HA0.out) ?_
     clear hK K
     try simp only [Act.put,qX,qY,qZ]
     refine Fst.rest (by kernel_rfl) ?_
     refine wpAny_l (l':=#[true,true,true,true,true,true,true,true,true,false,false]) (by kernel_rfl) ?_
     exact hK0.out _ _ _ _ _ _ _ _ _ _ _ _ _ _ _ (H.out.rgn T.out)
   ·go_simp
    obtain ⟨A7,hA⟩:∃ a,a = v1.heap.size:=⟨_,rfl⟩
    obtain ⟨v7,hv⟩:∃ x,x = v1.alloc BS0:=⟨_,rfl⟩
    replace T:Hid (Svs _ v7 _ _ _ _):=svs7 T.out hv
    replace H:Hid (Stg W v7 _ _):=H.out.new7 hv hA
    rw [← hv,← hA]
    clear hv hA
    refine hK _ _ (H.out.cell HA0.out) ?_
    clear hK K
    try simp only [Act.put,qX,qY,qZ]
    refine Fst.s2 3 8 (fun K hK=>?_) (fun K hK=>?_)
    ·go_simp
     refine (svs_do (cl:=5) (c:=Nf.c1) T.out Nf.rx_new (by unfold fits maxLen;decide) Nf.step1.1 Nf.step1.2.1 Nf.step1.2.2.1 Nf.step1.2.2.2).mono ?_
     rintro e v8 ⟨ep,en,ec,up,un,uc,op,on,oc,rfl,hs,hb⟩
     replace T:Hid (Svs _ v8 _ _ _ _):=H.out.keep hs
     replace H:Hid (Stg W v8 _ _):=H.out.call hb
     clear hs hb
     refine hK _ _ (H.out.cell HA0.out) ?_
     clear hK K
     try simp only [Act.put,qX,qY,qZ]
     refine Fst.tp (i:=4) rfl (H.out.cell HA0.out) ?_
     try simp only [Act.put,qX,qY,qZ]
     refine Fst.tp (i:=5) rfl (H.out.cell HA0.out) ?_
     try simp only [Act.put,qX,qY,qZ]
     refine Fst.tp (i:=6) rfl (H.out.cell HA0.out) ?_
     try simp only [Act.put,qX,qY,qZ]
     refine Fst.s1 8 (fun K hK=>?_)
     go_simp
     obtain ⟨A8,hA⟩:∃ a,a = v8.heap.size:=⟨_,rfl⟩
     obtain ⟨v9,hv⟩:∃ x,x = v8.alloc BR0:=⟨_,rfl⟩
     replace T:Hid (Svs _ v9 _ _ _ _):=svs8 T.out hv hA
     replace H:Hid (Stg W v9 _ _):=H.out.new8 hv hA
     rw [← hv,← hA]
     clear hv hA
     refine hK _ _ (H.out.cell HA0.out) ?_
     clear hK K
     try simp only [Act.put,qX,qY,qZ]
     refine Fst.rest (by kernel_rfl) ?_
     refine wpAny_l (l':=#[true,true,true,true,true,true,true,true,true,false,false]) (by kernel_rfl) ?_
     exact hK0.out _ _ _ _ _ _ _ _ _ _ _ _ _ _ _ (H.out.rgn T.out)
    ·go_simp
     obtain ⟨A8,hA⟩:∃ a,a = v7.heap.size:=⟨_,rfl⟩
     obtain ⟨v10,hv⟩:∃ x,x = v7.alloc BR0:=⟨_,rfl⟩
     replace T:Hid (Svs _ v10 _ _ _ _):=svs8 T.out hv hA
     replace H:Hid (Stg W v10 _ _):=H.out.new8 hv hA
     rw [← hv,← hA]
     clear hv hA
     refine hK _ _ (H.out.cell HA0.out) ?_
     clear hK K
     try simp only [Act.put,qX,qY,qZ]
     refine Fst.s1 3 (fun K hK=>?_)
     go_simp
     refine (svs_do (cl:=5) (c:=Nf.c1) T.out Nf.rx_new (by unfold fits maxLen;decide) Nf.step1.1 Nf.step1.2.1 Nf.step1.2.2.1 Nf.step1.2.2.2).mono ?_
     rintro e v11 ⟨ep,en,ec,up,un,uc,op,on,oc,rfl,hs,hb⟩
     replace T:Hid (Svs _ v11 _ _ _ _):=H.out.keep hs
     replace H:Hid (Stg W v11 _ _):=H.out.call hb
     clear hs hb
     refine hK _ _ (H.out.cell HA0.out) ?_
     clear hK K
     try simp only [Act.put,qX,qY,qZ]
     refine Fst.tp (i:=4) rfl (H.out.cell HA0.out) ?_
     try simp only [Act.put,qX,qY,qZ]
     refine Fst.tp (i:=5) rfl (H.out.cell HA0.out) ?_
     try simp only [Act.put,qX,qY,qZ]
     refine Fst.tp (i:=6) rfl (H.out.cell HA0.out) ?_
     try simp only [Act.put,qX,qY,qZ]
     refine Fst.rest (by kernel_rfl) ?_
     refine wpAny_l (l':=#[true,true,true,true,true,true,true,true,true,false,false]) (by kernel_rfl) ?_
     exact hK0.out _ _ _ _ _ _ _ _ _ _ _ _ _ _ _ (H.out.rgn T.out)
   ·go_simp
    obtain ⟨A8,hA⟩:∃ a,a = v1.heap.size:=⟨_,rfl⟩
    obtain ⟨v12,hv⟩:∃ x,x = v1.alloc BR0:=⟨_,rfl⟩
    replace T:Hid (Svs _ v12 _ _ _ _):=svs8 T.out hv hA
    replace H:Hid (Stg W v12 _ _):=H.out.new8 hv hA
    rw [← hv,← hA]
    clear hv hA
    refine hK _ _ (H.out.cell HA0.out) ?_
    clear hK K
    try simp only [Act.put,qX,qY,qZ]
    refine Fst.s2 3 7 (fun K hK=>?_) (fun K hK=>?_)
    ·go_simp
     refine (svs_do (cl:=5) (c:=Nf.c1) T.out Nf.rx_new (by unfold fits maxLen;decide) Nf.step1.1 Nf.step1.2.1 Nf.step1.2.2.1 Nf.step1.2.2.2).mono ?_
     rintro e v13 ⟨ep,en,ec,up,un,uc,op,on,oc,rfl,hs,hb⟩
     replace T:Hid (Svs _ v13 _ _ _ _):=H.out.keep hs
     replace H:Hid (Stg W v13 _ _):=H.out.call hb
     clear hs hb
     refine hK _ _ (H.out.cell HA0.out) ?_
     clear hK K
     try simp only [Act.put,qX,qY,qZ]
     refine Fst.tp (i:=4) rfl (H.out.cell HA0.out) ?_
     try simp only [Act.put,qX,qY,qZ]
     refine Fst.tp (i:=5) rfl (H.out.cell HA0.out) ?_
     try simp only [Act.put,qX,qY,qZ]
     refine Fst.tp (i:=6) rfl (H.out.cell HA0.out) ?_
     try simp only [Act.put,qX,qY,qZ]
     refine Fst.s1 7 (fun K hK=>?_)
     go_simp
     obtain ⟨A7,hA⟩:∃ a,a = v13.heap.size:=⟨_,rfl⟩
     obtain ⟨v14,hv⟩:∃ x,x = v13.alloc BS0:=⟨_,rfl⟩
     replace T:Hid (Svs _ v14 _ _ _ _):=svs7 T.out hv
     replace H:Hid (Stg W v14 _ _):=H.out.new7 hv hA
     rw [← hv,← hA]
     clear hv hA
     refine hK _ _ (H.out.cell HA0.out) ?_
     clear hK K
     try simp only [Act.put,qX,qY,qZ]
     refine Fst.rest (by kernel_rfl) ?_
     refine wpAny_l (l':=#[true,true,true,true,true,true,true,true,true,false,false]) (by kernel_rfl) ?_
     exact hK0.out _ _ _ _ _ _ _ _ _ _ _ _ _ _ _ (H.out.rgn T.out)
    ·go_simp
     obtain ⟨A7,hA⟩:∃ a,a = v12.heap.size:=⟨_,rfl⟩
     obtain ⟨v15,hv⟩:∃ x,x = v12.alloc BS0:=⟨_,rfl⟩
     replace T:Hid (Svs _ v15 _ _ _ _):=svs7 T.out hv
     replace H:Hid (Stg W v15 _ _):=H.out.new7 hv hA
     rw [← hv,← hA]
     clear hv hA
     refine hK _ _ (H.out.cell HA0.out) ?_
     clear hK K
     try simp only [Act.put,qX,qY,qZ]
     refine Fst.s1 3 (fun K hK=>?_)
     go_simp
     refine (svs_do (cl:=5) (c:=Nf.c1) T.out Nf.rx_new (by unfold fits maxLen;decide) Nf.step1.1 Nf.step1.2.1 Nf.step1.2.2.1 Nf.step1.2.2.2).mono ?_
     rintro e v16 ⟨ep,en,ec,up,un,uc,op,on,oc,rfl,hs,hb⟩
     replace T:Hid (Svs _ v16 _ _ _ _):=H.out.keep hs
     replace H:Hid (Stg W v16 _ _):=H.out.call hb
     clear hs hb
     refine hK _ _ (H.out.cell HA0.out) ?_
     clear hK K
     try simp only [Act.put,qX,qY,qZ]
     refine Fst.tp (i:=4) rfl (H.out.cell HA0.out) ?_
     try simp only [Act.put,qX,qY,qZ]
     refine Fst.tp (i:=5) rfl (H.out.cell HA0.out) ?_
     try simp only [Act.put,qX,qY,qZ]
     refine Fst.tp (i:=6) rfl (H.out.cell HA0.out) ?_
     try simp only [Act.put,qX,qY,qZ]
     refine Fst.rest (by kernel_rfl) ?_
     refine wpAny_l (l':=#[true,true,true,true,true,true,true,true,true,false,false]) (by kernel_rfl) ?_
     exact hK0.out _ _ _ _ _ _ _ _ _ _ _ _ _ _ _ (H.out.rgn T.out)
  ·go_simp
   obtain ⟨A7,hA⟩:∃ a,a = W.heap.size:=⟨_,rfl⟩
   obtain ⟨v17,hv⟩:∃ x,x = (W.alloc BS0).drew:=⟨_,rfl⟩
   replace H:Hid (Stg W v17 _ _):=H.out.new7 (by rw [hv];rfl) hA
   rw [← hv,← hA]
   clear hv hA
   refine hK _ _ (H.out.cell HA0.out) ?_
   clear hK K
   try simp only [Act.put,qX,qY,qZ]
   refine Fst.s2 0 8 (fun K hK=>?_) (fun K hK=>?_)
   ·go_simp
    refine (svs_new _).mono ?_
    rintro e v18 ⟨ap,n,cp,rfl,hs,hb⟩
    have T:Hid (Svs _ v18 _ _ _ _):=H.out.fresh hs
    replace H:Hid (Stg W v18 _ _):=H.out.call hb
    clear hs hb
    refine hK _ _ (H.out.cell HA0.out) ?_
    clear hK K
    try simp only [Act.put,qX,qY,qZ]
    refine Fst.s2 3 8 (fun K hK=>?_) (fun K hK=>?_)
    ·go_simp
     refine (svs_do (cl:=5) (c:=Nf.c1) T.out Nf.rx_new (by unfold fits maxLen;decide) Nf.step1.1 Nf.step1.2.1 Nf.step1.2.2.1 Nf.step1.2.2.2).mono ?_
     rintro e v19 ⟨ep,en,ec,up,un,uc,op,on,oc,rfl,hs,hb⟩
     replace T:Hid (Svs _ v19 _ _ _ _):=H.out.keep hs
     replace H:Hid (Stg W v19 _ _):=H.out.call hb
     clear hs hb
     refine hK _ _ (H.out.cell HA0.out) ?_
     clear hK K
     try simp only [Act.put,qX,qY,qZ]
     refine Fst.tp (i:=4) rfl (H.out.cell HA0.out) ?_
     try simp only [Act.put,qX,qY,qZ]
     refine Fst.tp (i:=5) rfl (H.out.cell HA0.out) ?_
     try simp only [Act.put,qX,qY,qZ]
     refine Fst.tp (i:=6) rfl (H.out.cell HA0.out) ?_
     try simp only [Act.put,qX,qY,qZ]
     refine Fst.s1 8 (fun K hK=>?_)
     go_simp
     obtain ⟨A8,hA⟩:∃ a,a = v19.heap.size:=⟨_,rfl⟩
     obtain ⟨v20,hv⟩:∃ x,x = v19.alloc BR0:=⟨_,rfl⟩
     replace T:Hid (Svs _ v20 _ _ _ _):=svs8 T.out hv hA
     replace H:Hid (Stg W v20 _ _):=H.out.new8 hv hA
     rw [← hv,← hA]
     clear hv hA
     refine hK _ _ (H.out.cell HA0.out) ?_
     clear hK K
     try simp only [Act.put,qX,qY,qZ]
     refine Fst.rest (by kernel_rfl) ?_
     refine wpAny_l (l':=#[true,true,true,true,true,true,true,true,true,false,false]) (by kernel_rfl) ?_
     exact hK0.out _ _ _ _ _ _ _ _ _ _ _ _ _ _ _ (H.out.rgn T.out)
    ·go_simp
     obtain ⟨A8,hA⟩:∃ a,a = v18.heap.size:=⟨_,rfl⟩
     obtain ⟨v21,hv⟩:∃ x,x = v18.alloc BR0:=⟨_,rfl⟩
     replace T:Hid (Svs _ v21 _ _ _ _):=svs8 T.out hv hA
     replace H:Hid (Stg W v21 _ _):=H.out.new8 hv hA
     rw [← hv,← hA]
     clear hv hA
     refine hK _ _ (H.out.cell HA0.out) ?_
     clear hK K
     try simp only [Act.put,qX,qY,qZ]
     refine Fst.s1 3 (fun K hK=>?_)
     go_simp
     refine (svs_do (cl:=5) (c:=Nf.c1) T.out Nf.rx_new (by unfold fits maxLen;decide) Nf.step1.1 Nf.step1.2.1 Nf.step1.2.2.1 Nf.step1.2.2.2).mono ?_
     rintro e v22 ⟨ep,en,ec,up,un,uc,op,on,oc,rfl,hs,hb⟩
     replace T:Hid (Svs _ v22 _ _ _ _):=H.out.keep hs
     replace H:Hid (Stg W v22 _ _):=H.out.call hb
     clear hs hb
     refine hK _ _ (H.out.cell HA0.out) ?_
     clear hK K
     try simp only [Act.put,qX,qY,qZ]
     refine Fst.tp (i:=4) rfl (H.out.cell HA0.out) ?_
     try simp only [Act.put,qX,qY,qZ]
     refine Fst.tp (i:=5) rfl (H.out.cell HA0.out) ?_
     try simp only [Act.put,qX,qY,qZ]
     refine Fst.tp (i:=6) rfl (H.out.cell HA0.out) ?_
     try simp only [Act.put,qX,qY,qZ]
     refine Fst.rest (by kernel_rfl) ?_
     refine wpAny_l (l':=#[true,true,true,true,true,true,true,true,true,false,false]) (by kernel_rfl) ?_
     exact hK0.out _ _ _ _ _ _ _ _ _ _ _ _ _ _ _ (H.out.rgn T.out)
   ·go_simp
    obtain ⟨A8,hA⟩:∃ a,a = v17.heap.size:=⟨_,rfl⟩
    obtain ⟨v23,hv⟩:∃ x,x = v17.alloc BR0:=⟨_,rfl⟩
    replace H:Hid (Stg W v23 _ _):=H.out.new8 hv hA
    rw [← hv,← hA]
    clear hv hA
    refine hK _ _ (H.out.cell HA0.out) ?_
    clear hK K
    try simp only [Act.put,qX,qY,qZ]
    refine Fst.s1 0 (fun K hK=>?_)
    go_simp
    refine (svs_new _).mono ?_
    rintro e v24 ⟨ap,n,cp,rfl,hs,hb⟩
    have T:Hid (Svs _ v24 _ _ _ _):=H.out.fresh hs
    replace H:Hid (Stg W v24 _ _):=H.out.call hb
    clear hs hb
    refine hK _ _ (H.out.cell HA0.out) ?_
    clear hK K
    try simp only [Act.put,qX,qY,qZ]
    refine Fst.s1 3 (fun K hK=>?_)
    go_simp
    refine (svs_do (cl:=5) (c:=Nf.c1) T.out Nf.rx_new (by unfold fits maxLen;decide) Nf.step1.1 Nf.step1.2.1 Nf.step1.2.2.1 Nf.step1.2.2.2).mono ?_
    rintro e v25 ⟨ep,en,ec,up,un,uc,op,on,oc,rfl,hs,hb⟩
    replace T:Hid (Svs _ v25 _ _ _ _):=H.out.keep hs
    replace H:Hid (Stg W v25 _ _):=H.out.call hb
    clear hs hb
    refine hK _ _ (H.out.cell HA0.out) ?_
    clear hK K
    try simp only [Act.put,qX,qY,qZ]
    refine Fst.tp (i:=4) rfl (H.out.cell HA0.out) ?_
    try simp only [Act.put,qX,qY,qZ]
    refine Fst.tp (i:=5) rfl (H.out.cell HA0.out) ?_
    try simp only [Act.put,qX,qY,qZ]
    refine Fst.tp (i:=6) rfl (H.out.cell HA0.out) ?_
    try simp only [Act.put,qX,qY,qZ]
    refine Fst.rest (by kernel_rfl) ?_
    refine wpAny_l (l':=#[true,true,true,true,true,true,true,true,true,false,false]) (by kernel_rfl) ?_
    exact hK0.out _ _ _ _ _ _ _ _ _ _ _ _ _ _ _ (H.out.rgn T.out)
  ·go_simp
   obtain ⟨A8,hA⟩:∃ a,a = W.heap.size:=⟨_,rfl⟩
   obtain ⟨v26,hv⟩:∃ x,x = (W.alloc BR0).drew:=⟨_,rfl⟩
   replace H:Hid (Stg W v26 _ _):=H.out.new8 (by rw [hv];rfl) hA
   rw [← hv,← hA]
   clear hv hA
   refine hK _ _ (H.out.cell HA0.out) ?_
   clear hK K
   try simp only [Act.put,qX,qY,qZ]
   refine Fst.s2 0 7 (fun K hK=>?_) (fun K hK=>?_)
   ·go_simp
    refine (svs_new _).mono ?_
    rintro e v27 ⟨ap,n,cp,rfl,hs,hb⟩
    have T:Hid (Svs _ v27 _ _ _ _):=H.out.fresh hs
    replace H:Hid (Stg W v27 _ _):=H.out.call hb
    clear hs hb
    refine hK _ _ (H.out.cell HA0.out) ?_
    clear hK K
    try simp only [Act.put,qX,qY,qZ]
    refine Fst.s2 3 7 (fun K hK=>?_) (fun K hK=>?_)
    ·go_simp
     refine (svs_do (cl:=5) (c:=Nf.c1) T.out Nf.rx_new (by unfold fits maxLen;decide) Nf.step1.1 Nf.step1.2.1 Nf.step1.2.2.1 Nf.step1.2.2.2).mono ?_
     rintro e v28 ⟨ep,en,ec,up,un,uc,op,on,oc,rfl,hs,hb⟩
     replace T:Hid (Svs _ v28 _ _ _ _):=H.out.keep hs
     replace H:Hid (Stg W v28 _ _):=H.out.call hb
     clear hs hb
     refine hK _ _ (H.out.cell HA0.out) ?_
     clear hK K
     try simp only [Act.put,qX,qY,qZ]
     refine Fst.tp (i:=4) rfl (H.out.cell HA0.out) ?_
     try simp only [Act.put,qX,qY,qZ]
     refine Fst.tp (i:=5) rfl (H.out.cell HA0.out) ?_
     try simp only [Act.put,qX,qY,qZ]
     refine Fst.tp (i:=6) rfl (H.out.cell HA0.out) ?_
     try simp only [Act.put,qX,qY,qZ]
     refine Fst.s1 7 (fun K hK=>?_)
     go_simp
     obtain ⟨A7,hA⟩:∃ a,a = v28.heap.size:=⟨_,rfl⟩
     obtain ⟨v29,hv⟩:∃ x,x = v28.alloc BS0:=⟨_,rfl⟩
     replace T:Hid (Svs _ v29 _ _ _ _):=svs7 T.out hv
     replace H:Hid (Stg W v29 _ _):=H.out.new7 hv hA
     rw [← hv,← hA]
     clear hv hA
     refine hK _ _ (H.out.cell HA0.out) ?_
     clear hK K
     try simp only [Act.put,qX,qY,qZ]
     refine Fst.rest (by kernel_rfl) ?_
     refine wpAny_l (l':=#[true,true,true,true,true,true,true,true,true,false,false]) (by kernel_rfl) ?_
     exact hK0.out _ _ _ _ _ _ _ _ _ _ _ _ _ _ _ (H.out.rgn T.out)
    ·go_simp
     obtain ⟨A7,hA⟩:∃ a,a = v27.heap.size:=⟨_,rfl⟩
     obtain ⟨v30,hv⟩:∃ x,x = v27.alloc BS0:=⟨_,rfl⟩
     replace T:Hid (Svs _ v30 _ _ _ _):=svs7 T.out hv
     replace H:Hid (Stg W v30 _ _):=H.out.new7 hv hA
     rw [← hv,← hA]
     clear hv hA
     refine hK _ _ (H.out.cell HA0.out) ?_
     clear hK K
     try simp only [Act.put,qX,qY,qZ]
     refine Fst.s1 3 (fun K hK=>?_)
     go_simp
     refine (svs_do (cl:=5) (c:=Nf.c1) T.out Nf.rx_new (by unfold fits maxLen;decide) Nf.step1.1 Nf.step1.2.1 Nf.step1.2.2.1 Nf.step1.2.2.2).mono ?_
     rintro e v31 ⟨ep,en,ec,up,un,uc,op,on,oc,rfl,hs,hb⟩
     replace T:Hid (Svs _ v31 _ _ _ _):=H.out.keep hs
     replace H:Hid (Stg W v31 _ _):=H.out.call hb
     clear hs hb
     refine hK _ _ (H.out.cell HA0.out) ?_
     clear hK K
     try simp only [Act.put,qX,qY,qZ]
     refine Fst.tp (i:=4) rfl (H.out.cell HA0.out) ?_
     try simp only [Act.put,qX,qY,qZ]
     refine Fst.tp (i:=5) rfl (H.out.cell HA0.out) ?_
     try simp only [Act.put,qX,qY,qZ]
     refine Fst.tp (i:=6) rfl (H.out.cell HA0.out) ?_
     try simp only [Act.put,qX,qY,qZ]
     refine Fst.rest (by kernel_rfl) ?_
     refine wpAny_l (l':=#[true,true,true,true,true,true,true,true,true,false,false]) (by kernel_rfl) ?_
     exact hK0.out _ _ _ _ _ _ _ _ _ _ _ _ _ _ _ (H.out.rgn T.out)
   ·go_simp
    obtain ⟨A7,hA⟩:∃ a,a = v26.heap.size:=⟨_,rfl⟩
    obtain ⟨v32,hv⟩:∃ x,x = v26.alloc BS0:=⟨_,rfl⟩
    replace H:Hid (Stg W v32 _ _):=H.out.new7 hv hA
    rw [← hv,← hA]
    clear hv hA
    refine hK _ _ (H.out.cell HA0.out) ?_
    clear hK K
    try simp only [Act.put,qX,qY,qZ]
    refine Fst.s1 0 (fun K hK=>?_)
    go_simp
    refine (svs_new _).mono ?_
    rintro e v33 ⟨ap,n,cp,rfl,hs,hb⟩
    have T:Hid (Svs _ v33 _ _ _ _):=H.out.fresh hs
    replace H:Hid (Stg W v33 _ _):=H.out.call hb
    clear hs hb
    refine hK _ _ (H.out.cell HA0.out) ?_
    clear hK K
    try simp only [Act.put,qX,qY,qZ]
    refine Fst.s1 3 (fun K hK=>?_)
    go_simp
    refine (svs_do (cl:=5) (c:=Nf.c1) T.out Nf.rx_new (by unfold fits maxLen;decide) Nf.step1.1 Nf.step1.2.1 Nf.step1.2.2.1 Nf.step1.2.2.2).mono ?_
    rintro e v34 ⟨ep,en,ec,up,un,uc,op,on,oc,rfl,hs,hb⟩
    replace T:Hid (Svs _ v34 _ _ _ _):=H.out.keep hs
    replace H:Hid (Stg W v34 _ _):=H.out.call hb
    clear hs hb
    refine hK _ _ (H.out.cell HA0.out) ?_
    clear hK K
    try simp only [Act.put,qX,qY,qZ]
    refine Fst.tp (i:=4) rfl (H.out.cell HA0.out) ?_
    try simp only [Act.put,qX,qY,qZ]
    refine Fst.tp (i:=5) rfl (H.out.cell HA0.out) ?_
    try simp only [Act.put,qX,qY,qZ]
    refine Fst.tp (i:=6) rfl (H.out.cell HA0.out) ?_
    try simp only [Act.put,qX,qY,qZ]
    refine Fst.rest (by kernel_rfl) ?_
    refine wpAny_l (l':=#[true,true,true,true,true,true,true,true,true,false,false]) (by kernel_rfl) ?_
    exact hK0.out _ _ _ _ _ _ _ _ _ _ _ _ _ _ _ (H.out.rgn T.out)
 intro ap n cp ep en ec up un uc op on oc A7 A8 U HR
 obtain ⟨f0,f1,f2,f3⟩:=st_of HR.out.h7
 have ff:=fr_at HR.out.h7
 obtain ⟨g0,g1,g2,g3,g4,g5,g6,g7,g8,g9⟩:=rp_of HR.out.h8
 have gg:=fr_at HR.out.h8
 have h78:=HR.out.ne
 refine wpAny_ready (rs:=[9]) (by kernel_rfl) (by simp) ?_
 refine AllReady.cons rfl (fun K hK=>?_) AllReady.nil
 go_simp
 (try go_wp2_with fail)
 first | (refine hK _ _ ?_;clear hK K) | skip
 try simp only [Act.put,qX,qY,qZ]
 refine wpAny_ready (rs:=[10]) (by kernel_rfl) (by simp) ?_
 refine AllReady.cons rfl (fun K hK=>?_) AllReady.nil
 go_simp
 (try go_wp2_with fail)
 first | (refine hK _ _ ?_;clear hK K) | skip
 try simp only [Act.put,qX,qY,qZ]
 refine wpAny_done (by kernel_rfl) ?_ _
 obtain ⟨U2,hU2⟩:∃ U2,U2 = ((((((((((((((U.setCell ⟨A7,0,none⟩ (.slice up un uc)).setCell ⟨A7,1,none⟩ (.slice op on oc)).setCell ⟨A7,2,none⟩ (.slice none 0 0)).setCell ⟨A7,3,none⟩ (.int .i64 1)).setCell ⟨A8,0,none⟩ (.int .i64 0)).setCell ⟨A8,1,none⟩ (.int .i64 1)).setCell ⟨A8,2,none⟩ (.int .i64 1)).setCell ⟨A8,3,none⟩ (.int .i64 1)).setCell ⟨A8,4,none⟩ (.int .i64 1)).setCell ⟨A8,5,none⟩ (.int .i64 0)).setCell ⟨A8,6,none⟩ (.int .i64 1)).setCell ⟨A8,7,none⟩ (.string ⟨#[]⟩)).setCell ⟨A8,8,none⟩ (.slice ep en ec)).setCell ⟨A8,9,none⟩ (.int .i64 0)):=⟨_,rfl⟩
 rw [← hU2]
 have H:Hid (Big W U2 A7 (.slice up un uc) (.slice op on oc) 1 (.slice up un uc) (.slice op on oc) _ [] [(w.heap.size,BH2 0 1),(A8,BRl R1 (.slice ep en ec))]):=HR.out.big hU2 hwW HA0.out
 clear hU2 HR f0 f1 f2 f3 ff g0 g1 g2 g3 g4 g5 g6 g7 g8 g9 gg h78
 obtain ⟨t0,t1,t2,t3⟩:=st_of H.out.st
 have tf:=fr_at H.out.st
 have tl:=(qL H.out.st)
 obtain ⟨k0,kn,kl⟩:=H.out.at 0 rfl
 have k1:=cell_at k0 1
 replace k0:=cell_at k0 0
 simp at k0 k1
 obtain ⟨g0,gn,gl⟩:=H.out.at 1 rfl
 obtain ⟨g0,g1,g2,g3,g4,g5,g6,g7,g8,g9⟩:=rp_of g0
 go_wp2_with fail
 refine (sv_do (cl:=5) (c:=Nf.c2) H.out.sv (Nf.right_rx.1 Nf.right_1) (by unfold fits maxLen;decide) Nf.step2.1 Nf.step2.2.1 Nf.step2.2.2.1 Nf.step2.2.2.2).mono ?_
 rintro e w3 ⟨ep3,en3,ec3,up3,un3,uc3,op3,on3,oc3,rfl,hs,-,hb⟩
 replace H:Hid (Big W w3 A7 _ _ _ _ _ _ _ _):=H.out.call hb hs
 clear t0 t1 t2 t3 tf tl k0 k1 kn kl g0 g1 g2 g3 g4 g5 g6 g7 g8 g9 gn gl hs hb
 obtain ⟨t0,t1,t2,t3⟩:=st_of H.out.st
 have tf:=fr_at H.out.st
 have tl:=(qL H.out.st)
 obtain ⟨k0,kn,kl⟩:=H.out.at 0 rfl
 have k1:=cell_at k0 1
 replace k0:=cell_at k0 0
 simp at k0 k1
 obtain ⟨g0,gn,gl⟩:=H.out.at 1 rfl
 obtain ⟨g0,g1,g2,g3,g4,g5,g6,g7,g8,g9⟩:=rp_of g0
 go_wp2_with fail
 obtain ⟨U3,hU⟩:∃ U,U = ((((w3.setCell ⟨A7,0,none⟩ (.slice up3 un3 uc3)).setCell ⟨A7,1,none⟩ (.slice op3 on3 oc3)).setCell ⟨A7,2,none⟩ (.slice none 0 0)).setCell ⟨A7,3,none⟩ (.int .i64 2)).alloc (BRl ((⟨0,0,0,0,0,0,0,⟨#[]⟩,[],0⟩:Nf.Rpl)) (.slice ep3 en3 ec3)):=⟨_,rfl⟩
 obtain ⟨B3,hA⟩:∃ a,a = w3.heap.size:=⟨_,rfl⟩
 replace H:Hid (Big W U3 A7 _ _ 2 _ _ _ _ _):=H.out.store (o:=BRl ((⟨0,0,0,0,0,0,0,⟨#[]⟩,[],0⟩:Nf.Rpl)) (.slice ep3 en3 ec3)) hU hA
 rw [← hU,← hA]
 clear t0 t1 t2 t3 tf tl k0 k1 kn kl g0 g1 g2 g3 g4 g5 g6 g7 g8 g9 gn gl hU hA
 obtain ⟨t0,t1,t2,t3⟩:=st_of H.out.st
 have tf:=fr_at H.out.st
 have tl:=(qL H.out.st)
 obtain ⟨k0,kn,kl⟩:=H.out.at 0 rfl
 have k1:=cell_at k0 1
 replace k0:=cell_at k0 0
 simp at k0 k1
 obtain ⟨g0,gn,gl⟩:=H.out.at 1 rfl
 obtain ⟨g0,g1,g2,g3,g4,g5,g6,g7,g8,g9⟩:=rp_of g0
 refine (sv_do (cl:=5) (c:=Nf.c3) H.out.sv (Nf.right_rx.1 Nf.right_2) (by unfold fits maxLen;decide) Nf.step3.1 Nf.step3.2.1 Nf.step3.2.2.1 Nf.step3.2.2.2).mono ?_
 rintro e w4 ⟨ep4,en4,ec4,up4,un4,uc4,op4,on4,oc4,rfl,hs,-,hb⟩
 replace H:Hid (Big W w4 A7 _ _ _ _ _ _ _ _):=H.out.call hb hs
 clear t0 t1 t2 t3 tf tl k0 k1 kn kl g0 g1 g2 g3 g4 g5 g6 g7 g8 g9 gn gl hs hb
 obtain ⟨t0,t1,t2,t3⟩:=st_of H.out.st
 have tf:=fr_at H.out.st
 have tl:=(qL H.out.st)
 obtain ⟨k0,kn,kl⟩:=H.out.at 0 rfl
 have k1:=cell_at k0 1
 replace k0:=cell_at k0 0
 simp at k0 k1
 obtain ⟨g0,gn,gl⟩:=H.out.at 1 rfl
 obtain ⟨g0,g1,g2,g3,g4,g5,g6,g7,g8,g9⟩:=rp_of g0
 go_wp2_with fail
 obtain ⟨U4,hU⟩:∃ U,U = ((((w4.setCell ⟨A7,0,none⟩ (.slice up4 un4 uc4)).setCell ⟨A7,1,none⟩ (.slice op4 on4 oc4)).setCell ⟨A7,2,none⟩ (.slice none 0 0)).setCell ⟨A7,3,none⟩ (.int .i64 3)).alloc (BRl (Nf.bad 0) (.slice ep4 en4 ec4)):=⟨_,rfl⟩
 obtain ⟨B4,hA⟩:∃ a,a = w4.heap.size:=⟨_,rfl⟩
 replace H:Hid (Big W U4 A7 _ _ 3 _ _ _ _ _):=H.out.store (o:=BRl (Nf.bad 0) (.slice ep4 en4 ec4)) hU hA
 rw [← hU,← hA]
 clear t0 t1 t2 t3 tf tl k0 k1 kn kl g0 g1 g2 g3 g4 g5 g6 g7 g8 g9 gn gl hU hA
 obtain ⟨t0,t1,t2,t3⟩:=st_of H.out.st
 have tf:=fr_at H.out.st
 have tl:=(qL H.out.st)
 obtain ⟨k0,kn,kl⟩:=H.out.at 0 rfl
 have k1:=cell_at k0 1
 replace k0:=cell_at k0 0
 simp at k0 k1
 obtain ⟨g0,gn,gl⟩:=H.out.at 1 rfl
 obtain ⟨g0,g1,g2,g3,g4,g5,g6,g7,g8,g9⟩:=rp_of g0
 refine (sv_do (cl:=5) (c:=Nf.c4) H.out.sv (Nf.right_rx.1 Nf.right_3) (by unfold fits maxLen;decide) Nf.step4.1 Nf.step4.2.1 Nf.step4.2.2.1 Nf.step4.2.2.2).mono ?_
 rintro e w5 ⟨ep5,en5,ec5,up5,un5,uc5,op5,on5,oc5,rfl,hs,-,hb⟩
 replace H:Hid (Big W w5 A7 _ _ _ _ _ _ _ _):=H.out.call hb hs
 clear t0 t1 t2 t3 tf tl k0 k1 kn kl g0 g1 g2 g3 g4 g5 g6 g7 g8 g9 gn gl hs hb
 obtain ⟨t0,t1,t2,t3⟩:=st_of H.out.st
 have tf:=fr_at H.out.st
 have tl:=(qL H.out.st)
 obtain ⟨k0,kn,kl⟩:=H.out.at 0 rfl
 have k1:=cell_at k0 1
 replace k0:=cell_at k0 0
 simp at k0 k1
 obtain ⟨g0,gn,gl⟩:=H.out.at 1 rfl
 obtain ⟨g0,g1,g2,g3,g4,g5,g6,g7,g8,g9⟩:=rp_of g0
 go_wp2_with fail
 obtain ⟨U5,hU⟩:∃ U,U = ((((w5.setCell ⟨A7,0,none⟩ (.slice up5 un5 uc5)).setCell ⟨A7,1,none⟩ (.slice op5 on5 oc5)).setCell ⟨A7,2,none⟩ (.slice none 0 0)).setCell ⟨A7,3,none⟩ (.int .i64 4)).alloc (BRl ((⟨0,0,0,1,0,1,4,⟨#[]⟩,[],0⟩:Nf.Rpl)) (.slice ep5 en5 ec5)):=⟨_,rfl⟩
 obtain ⟨B5,hA⟩:∃ a,a = w5.heap.size:=⟨_,rfl⟩
 replace H:Hid (Big W U5 A7 _ _ 4 _ _ _ _ _):=H.out.store (o:=BRl ((⟨0,0,0,1,0,1,4,⟨#[]⟩,[],0⟩:Nf.Rpl)) (.slice ep5 en5 ec5)) hU hA
 rw [← hU,← hA]
 clear t0 t1 t2 t3 tf tl k0 k1 kn kl g0 g1 g2 g3 g4 g5 g6 g7 g8 g9 gn gl hU hA
 obtain ⟨t0,t1,t2,t3⟩:=st_of H.out.st
 have tf:=fr_at H.out.st
 have tl:=(qL H.out.st)
 obtain ⟨k0,kn,kl⟩:=H.out.at 0 rfl
 have k1:=cell_at k0 1
 replace k0:=cell_at k0 0
 simp at k0 k1
 obtain ⟨g0,gn,gl⟩:=H.out.at 1 rfl
 obtain ⟨g0,g1,g2,g3,g4,g5,g6,g7,g8,g9⟩:=rp_of g0
 refine (sv_do (cl:=5) (c:=Nf.c5) H.out.sv (Nf.right_rx.1 Nf.right_4) (by unfold fits maxLen;decide) Nf.step5.1 Nf.step5.2.1 Nf.step5.2.2.1 Nf.step5.2.2.2).mono ?_
 rintro e w6 ⟨ep6,en6,ec6,up6,un6,uc6,op6,on6,oc6,rfl,hs,-,hb⟩
 replace H:Hid (Big W w6 A7 _ _ _ _ _ _ _ _):=H.out.call hb hs
 clear t0 t1 t2 t3 tf tl k0 k1 kn kl g0 g1 g2 g3 g4 g5 g6 g7 g8 g9 gn gl hs hb
 obtain ⟨t0,t1,t2,t3⟩:=st_of H.out.st
 have tf:=fr_at H.out.st
 have tl:=(qL H.out.st)
 obtain ⟨k0,kn,kl⟩:=H.out.at 0 rfl
 have k1:=cell_at k0 1
 replace k0:=cell_at k0 0
 simp at k0 k1
 obtain ⟨g0,gn,gl⟩:=H.out.at 1 rfl
 obtain ⟨g0,g1,g2,g3,g4,g5,g6,g7,g8,g9⟩:=rp_of g0
 obtain ⟨R6,hR6⟩:∃ R,Nf.doR Nf.F5 [] 5 5 Nf.c6 = R:=⟨_,rfl⟩
 have HR6:Hid (Nf.doR Nf.F5 [] 5 5 Nf.c6 = R6):=hR6
 clear hR6
 go_wp2_with fail
 obtain ⟨U6,hU⟩:∃ U,U = ((((w6.setCell ⟨A7,0,none⟩ (.slice up6 un6 uc6)).setCell ⟨A7,1,none⟩ (.slice op6 on6 oc6)).setCell ⟨A7,2,none⟩ (.slice none 0 0)).setCell ⟨A7,3,none⟩ (.int .i64 5)).alloc (BRl (Nf.bad 0) (.slice ep6 en6 ec6)):=⟨_,rfl⟩
 obtain ⟨B6,hA⟩:∃ a,a = w6.heap.size:=⟨_,rfl⟩
 replace H:Hid (Big W U6 A7 _ _ 5 _ _ _ _ _):=H.out.store (o:=BRl (Nf.bad 0) (.slice ep6 en6 ec6)) hU hA
 rw [← hU,← hA]
 clear t0 t1 t2 t3 tf tl k0 k1 kn kl g0 g1 g2 g3 g4 g5 g6 g7 g8 g9 gn gl hU hA
 obtain ⟨t0,t1,t2,t3⟩:=st_of H.out.st
 have tf:=fr_at H.out.st
 have tl:=(qL H.out.st)
 obtain ⟨k0,kn,kl⟩:=H.out.at 0 rfl
 have k1:=cell_at k0 1
 replace k0:=cell_at k0 0
 simp at k0 k1
 obtain ⟨g0,gn,gl⟩:=H.out.at 1 rfl
 obtain ⟨g0,g1,g2,g3,g4,g5,g6,g7,g8,g9⟩:=rp_of g0
 refine (sv_do (cl:=5) (c:=Nf.c6) H.out.sv (Nf.right_rx.1 Nf.right_5) (by unfold fits maxLen;decide) HR6.out rfl rfl Nf.step6.2).mono ?_
 rintro e w7 ⟨ep7,en7,ec7,up7,un7,uc7,op7,on7,oc7,rfl,hs,-,hb⟩
 replace H:Hid (Big W w7 A7 _ _ _ _ _ _ _ _):=H.out.call hb hs
 clear t0 t1 t2 t3 tf tl k0 k1 kn kl g0 g1 g2 g3 g4 g5 g6 g7 g8 g9 gn gl hs hb
 obtain ⟨t0,t1,t2,t3⟩:=st_of H.out.st
 have tf:=fr_at H.out.st
 have tl:=(qL H.out.st)
 obtain ⟨k0,kn,kl⟩:=H.out.at 0 rfl
 have k1:=cell_at k0 1
 replace k0:=cell_at k0 0
 simp at k0 k1
 obtain ⟨g0,gn,gl⟩:=H.out.at 1 rfl
 obtain ⟨g0,g1,g2,g3,g4,g5,g6,g7,g8,g9⟩:=rp_of g0
 obtain ⟨z2,zn2,zl2⟩:=H.out.at 2 rfl
 replace z2:=cell_at z2 0
 simp at z2
 obtain ⟨z3,zn3,zl3⟩:=H.out.at 3 rfl
 replace z3:=cell_at z3 0
 simp at z3
 obtain ⟨z4,zn4,zl4⟩:=H.out.at 4 rfl
 replace z4:=cell_at z4 0
 simp at z4
 obtain ⟨z5,zn5,zl5⟩:=H.out.at 5 rfl
 replace z5:=cell_at z5 0
 simp at z5
 have h6:R6.e = 401:=by rw [← HR6.out];exact Nf.step6.1
 have HZ:Hid (Below w.heap.size w _):=HB0.out.trans ((H.out.store (D':=6) (o:=BRl R6 (.slice ep7 en7 ec7)) rfl rfl).bl.mono HB0.out.size)
 go_wp2
 go_ret
 refine ⟨rfl,?_⟩
 rw [← h6]
 exact HZ.out
end Go.Proofs.YtneojimodomohaaGreat
namespace Go.Proofs.YtneojimodomohaaGreat
open It Go.RowKit
set_option maxRecDepth 100000
set_option maxRecDepth 100000
namespace Nf
def opl:Nat->List Int->List Os.Opn
 | _,[]=>[]
 | k,c :: cs=>((k:Int),c,1,1) :: opl (k + 1) cs
theorem opl_snoc:∀ (cs:List Int) (k:Nat) (c:Int),opl k (cs ++ [c]) = opl k cs ++ [(((k + cs.length:Nat):Int),c,1,1)]
 | [],k,c=>by simp [opl]
 | d :: cs,k,c=>by
  have:=opl_snoc cs (k + 1) c
  simp only [List.cons_append,opl,this,List.length_cons]
  rw [show k + 1 + cs.length = k + (cs.length + 1) from by omega]
theorem opl_len:∀ (cs:List Int) (k:Nat),(opl k cs).length = cs.length
 | [],_=>rfl
 | _ :: cs,k=>by simp [opl,opl_len cs (k + 1)]
theorem opl_least:∀ (cs:List Int) (k:Nat),Os.Op.least k (opl k cs) = k + cs.length
 | [],k=>rfl
 | c :: cs,k=>by
  have:=opl_least cs (k + 1)
  simp only [opl,Os.Op.least,if_true,this,List.length_cons]
  omega
theorem opl_held {cs:List Int} {k:Nat}:Hl (opl k cs) ((1:Nat):Int) 1 ↔ cs≠[]:=by
 cases cs with
 | nil=>simp [opl,Hl]
 | cons c cs=>exact ⟨fun _ h=>(by cases h),fun _=>⟨((k:Int),c,1,1),by simp [opl],rfl,rfl⟩⟩
theorem first_o:doR new [] 0 0 ⟨3,0,1,0,0,xA,e0,0,0,e0⟩ = ⟨0,1,1,1,1,0,1,e0,[],0⟩/\doT new [] 0 0 ⟨3,0,1,0,0,xA,e0,0,0,e0⟩ = F1s xA/\doO new [] 0 0 ⟨3,0,1,0,0,xA,e0,0,0,e0⟩ = []/\doD new [] 0 0 = 1/\RX (F1s xA) [] 1 (fun _=>False):=by
 obtain ⟨c,hc⟩:∃ c:Cal,c = ⟨3,0,1,0,0,xA,e0,0,0,e0⟩:=⟨_,rfl⟩
 rw [← hc]
 have hk:c.k = 3:=by rw [hc]
 have hr:Ks.Ak.right c = true:=by
  rw [hc]
  exact right_c (by decide) (by decide) (by decide) (by decide) (by decide) (by decide) (by decide) (by decide)
 obtain ⟨h1,h2,h3,h4⟩:=rx_do (c:=c) (cl:=0) rx_new (by decide) (by decide) hr
 obtain ⟨m1,m2,m3⟩:=mk_s okA
 have hM:makeT new c 1 1 = F1s xA:=by
  unfold makeT
  rw [hc,m1,m2,if_pos rfl]
 have hT:doT new [] 0 0 c = F1s xA:=by
  rw [h2,show tab new [] (0 + 1) 0 c = makeT new c 1 1 from by simp [tab,hk]]
  exact hM
 have hO:doO new [] 0 0 c = []:=by
  rw [h3]
  simp [ops,hk]
 refine ⟨?_,hT,hO,h4,?_⟩
 ·rw [h1,show rep new [] (0 + 1) 0 c = makeP new c 1 1 from by simp [rep,hk]]
  unfold makeP told
  rw [hc,m1,m2,m3,if_pos rfl]
  rfl
 ·have:=(out_make (c:=c) (kind:=1) rx_new (by decide)).rx
  rw [show (0:Int) + 1 = 1 from rfl,hM] at this
  exact this
abbrev cOp:Cal:=⟨13,1,1,0,0,e0,e0,0,0,e0⟩
theorem opened_s {cs:List Int} {c dn:Int} (h:RX (F1s xA) (opl 0 cs) dn (fun _=>False)) (hd:dn≠1099511627776) (hcs:∀ d∈cs ++ [c],0<=d/\d<=1099511627776) (hl:cs.length < 16) :
  doR (F1s xA) (opl 0 cs) dn c cOp = ⟨0,0,0,0,0,0,0,e0,[],(cs.length:Int)⟩/\doT (F1s xA) (opl 0 cs) dn c cOp = F1s xA/\doO (F1s xA) (opl 0 cs) dn c cOp = opl 0 (cs ++ [c])/\doD (F1s xA) (opl 0 cs) dn c = dn + 1/\RX (F1s xA) (opl 0 (cs ++ [c])) (dn + 1) (fun _=>False):=by
 have hc:=hcs c (by simp)
 obtain ⟨h1,h2,h3,h4⟩:=rx_do (c:=cOp) (cl:=c) h hd hc (by decide)
 rw [show rep (F1s xA) (opl 0 cs) (dn + 1) c cOp = openP (F1s xA) (opl 0 cs) c cOp from by simp [rep]] at h1
 rw [show tab (F1s xA) (opl 0 cs) (dn + 1) c cOp = F1s xA from by simp [tab]] at h2
 rw [show ops (F1s xA) (opl 0 cs) c cOp = (if opE (F1s xA) (opl 0 cs) c cOp = 0 then Os.Op.opened (opl 0 cs) c 1 1 else opl 0 cs) from by simp [ops]] at h3
 have hr:Os.Op.right 0 (opl 0 cs) = true:=h.os
 have ha:Os.Op.ask (opl 0 cs) c = 0:=by unfold Os.Op.ask;rw [if_pos hr,if_pos (show Os.Op.Cl c from hc)]
 have ho:Os.Op.openErr (opl 0 cs) c 1 1 = 0:=by unfold Os.Op.openErr;rw [if_pos ha,if_pos (by decide),if_neg (by rw [opl_len];omega)]
 have hf:fndE (F1s xA) 1 1 1 405 = 0:=by decide
 have hE:opE (F1s xA) (opl 0 cs) c cOp = 0:=by
  unfold opE
  rw [if_pos hf]
  exact ho
 have hm:=opl_least cs 0
 have hO:Os.Op.opened (opl 0 cs) c 1 1 = opl 0 (cs ++ [c]):=by
  unfold Os.Op.opened
  rw [if_pos ho,hm,opl_snoc,List.take_of_length_le (by rw [opl_len];omega),List.drop_of_length_le (by rw [opl_len];omega),List.append_nil]
 rw [if_pos hE,hO] at h3
 have hdl:=h.dn.1
 have hX:=(out_open (c:=cOp) (cl:=c) h (by omega)).rx
 rw [if_pos hE] at hX
 have hX:RX (F1s xA) (Os.Op.opened (opl 0 cs) c 1 1) (dn + 1) (fun _=>False):=hX
 rw [hO] at hX
 refine ⟨?_,h2,h3,h4,hX⟩
 rw [h1]
 unfold openP opN
 rw [hE,if_pos rfl]
 unfold Os.Op.openFd
 rw [if_pos ho,hm,Nat.zero_add]
structure Fil (T:List Ino) (d:ByteArray):Prop where
 ex:∃ x0 x,T = [x0,x]/\x.gen = 1/\x.kind = 1/\x.links = 0/\((x.runs = []/\x.size = 0)∨(x.runs = [(0,d)]/\x.size = d.size/\d.size≠0))
abbrev cUn:Cal:=⟨9,0,1,0,0,xA,e0,0,0,e0⟩
theorem unlinked {cs:List Int} {dn:Int} {d:ByteArray} (h:RX (F1s xA) (opl 0 cs) dn (fun _=>False)) (h1:1<=dn/\dn < 1099511627776) (hne:cs≠[]) :
  (doR (F1s xA) (opl 0 cs) dn 0 cUn).e = 0/\doO (F1s xA) (opl 0 cs) dn 0 cUn = opl 0 cs/\doD (F1s xA) (opl 0 cs) dn 0 = dn + 1/\RX (doT (F1s xA) (opl 0 cs) dn 0 cUn) (opl 0 cs) (dn + 1) (fun _=>False)/\Fil (doT (F1s xA) (opl 0 cs) dn 0 cUn) d:=by
 obtain ⟨g1,g2,g3,g4⟩:=rx_do (c:=cUn) (cl:=0) h (by omega) (by decide) (by decide)
 have hX:=(out_unlink (c:=cUn) rfl h (by omega)).rx
 rw [show ops (F1s xA) (opl 0 cs) 0 cUn = opl 0 cs from by simp [ops]] at g3
 have hX:RX (doT (F1s xA) (opl 0 cs) dn 0 cUn) (opl 0 cs) (dn + 1) (fun _=>False):=by
  rw [g2,show tab (F1s xA) (opl 0 cs) (dn + 1) 0 cUn = unT (F1s xA) (opl 0 cs) 0 1 xA (dn + 1) from by simp [tab]]
  exact hX
 obtain ⟨m1,m2,m3⟩:=hit_name (L:=F1s xA) (a:=0) (b:=1) (s:=xA) (es:=[(xA,1,1,1)]) (nx:=1) (k:=0) (x:=(xA,1,1,1)) (by decide) (by rfl) (by decide) (dir_one okA (by decide)) okA (at_first rfl) rfl
 have hs:=st_fine (st:=dn + 1) h.sp (by have h5:Sp.top (F1s xA) = 1:=(by decide);omega)
 have ht:Sp.toErr (Sp.chk Sp.isSp) (F1s xA) (dn + 1) 0 1 xA = 0:=by unfold Sp.toErr;rw [if_pos hs,m1]
 have hh:Sp.toH (Sp.chk Sp.isSp) (F1s xA) (dn + 1) 0 1 xA = (1,1):=by unfold Sp.toH;rw [if_pos hs,m2]
 have hE:Sp.ulE (Sp.chk Sp.isSp) (F1s xA) 0 1 xA (dn + 1) = 0:=by
  unfold Sp.ulE
  rw [if_pos ht,hh]
  rfl
 obtain ⟨G,hG⟩:∃ G:List Ino,G = [⟨1,2,1,0,dn + 1,[],[],1⟩,⟨1,1,0,0,dn + 1,[],[],0⟩]:=⟨_,rfl⟩
 have hT:Sp.ulT (Sp.chk Sp.isSp) (F1s xA) 0 1 xA (dn + 1) = G:=by
  unfold Sp.ulT
  rw [if_pos hE,hh]
  unfold Sp.lessDir
  rw [show findI (F1s xA) 0 1 = ⟨1,2,1,1,1,[],[(xA,1,1,1)],1⟩ from by rfl]
  dsimp only
  rw [m3,hG]
  rfl
 have hH:Sp.ulH (Sp.chk Sp.isSp) (F1s xA) 0 1 xA (dn + 1) = (1,1):=by unfold Sp.ulH;rw [if_pos hE,hh]
 have hn:needB G (opl 0 cs) (1,1) = true:=by
  have e:G[1]? = some ⟨1,1,0,0,dn + 1,[],[],0⟩:=by rw [hG];rfl
  exact (need_iff e).2 (.inr (opl_held.2 hne))
 have hD:doT (F1s xA) (opl 0 cs) dn 0 cUn = G:=by
  rw [g2,show tab (F1s xA) (opl 0 cs) (dn + 1) 0 cUn = unT (F1s xA) (opl 0 cs) 0 1 xA (dn + 1) from by simp [tab]]
  unfold unT reT
  rw [if_pos hE,hT,hH,if_pos hn]
 refine ⟨?_,g3,g4,hX,?_⟩
 ·rw [g1,show rep (F1s xA) (opl 0 cs) (dn + 1) 0 cUn = bad (unE (F1s xA) (opl 0 cs) 0 1 xA (dn + 1)) from by simp [rep]]
  show unE (F1s xA) (opl 0 cs) 0 1 xA (dn + 1) = 0
  unfold unE reE
  rw [if_pos hE,hT,hH,if_pos hn]
 ·rw [hD,hG]
  exact ⟨_,_,rfl,rfl,rfl,rfl,.inl ⟨rfl,rfl⟩⟩
theorem write_same {d:ByteArray} (h:d.size≠0) (hd:d.size<=512):Bs.Bl.write [(0,d)] 0 d = [(0,d)]:=by
 have c1:Bs.Bl.clip 0 0 (0,d) = none:=by
  unfold Bs.Bl.clip
  rw [if_neg (by show ¬ max (0:Int) 0 < min (0 + (d.size:Int)) 0;omega)]
 have c2:Bs.Bl.clip (0 + (d.size:Int)) Bs.Bl.MAX (0,d) = none:=by
  unfold Bs.Bl.clip
  rw [if_neg (by show ¬ max (0:Int) (0 + (d.size:Int)) < min (0 + (d.size:Int)) 1048576;omega)]
 unfold Bs.Bl.write Bs.Bl.parts Bs.Bl.within
 rw [if_neg h,List.filterMap_cons,c1,List.filterMap_cons,c2]
 rfl
section
variable {T:List Ino} {O:List Os.Opn} {dn:Int} {d:ByteArray}
theorem fil_write (h:RX T O dn (fun _=>False)) (hd:dn < 1099511627776) (hf:Fil T d) (hz:d.size<=512):(doR T O dn 3 (cW 0 d)).e = 0/\doO T O dn 3 (cW 0 d) = O/\doD T O dn 3 = dn + 1/\RX (doT T O dn 3 (cW 0 d)) O (dn + 1) (fun _=>False)/\Fil (doT T O dn 3 (cW 0 d)) d/\∃ x,(doT T O dn 3 (cW 0 d))[1]? = some x/\x.gen = 1/\x.kind = 1/\Rd x.runs x.size 0 d:=by
 obtain ⟨g1,g2,g3,g4⟩:=rx_do (c:=cW 0 d) (cl:=3) h (by omega) (by decide) (right_w (by decide) hz)
 have hX:=(out_write (c:=cW 0 d) h (by omega)).rx
 rw [show ops T O 3 (cW 0 d) = O from by simp [ops]] at g3
 rw [show tab T O (dn + 1) 3 (cW 0 d) = wrT T (cW 0 d) (dn + 1) from by simp [tab]] at g2
 rw [show rep T O (dn + 1) 3 (cW 0 d) = wrP T (cW 0 d) (dn + 1) from by simp [rep]] at g1
 obtain ⟨x0,x,hT,a1,a2,a3,a4⟩:=hf.ex
 have hx1:T[1]? = some x:=by rw [hT];rfl
 have hx0:T[0]? = some x0:=by rw [hT];rfl
 have hr:=(Sp.isSp_iff.1 h.sp).1
 have hone:=(It.right_iff.1 hr).2.2 x (List.mem_of_getElem? hx1)
 obtain ⟨f1,f2,f3⟩:=fnd_ok (e:=405) hr hx1 (by omega)
 rw [a1,a2] at f1
 rw [a1] at f3
 have f1':fndE T (cW 0 d).no (cW 0 d).gen 1 405 = 0:=f1
 have f3':findI T (cW 0 d).no (cW 0 d).gen = x:=f3
 by_cases hz0:d.size = 0
 ·have a5:x.runs = []/\x.size = 0:=by
   rcases a4 with a4 | a4
   ·exact a4
   ·exact absurd hz0 a4.2.2
  have hw:Bs.Bl.wErr x.runs (cW 0 d).pl (cW 0 d).data = 0:=by
   unfold Bs.Bl.wErr
   rw [a5.1,if_pos (show Bs.Bl.right (-1) [] from trivial),if_neg (show ¬ (0:Int) < 0 by decide),if_neg (show ¬ 1048576 - (d.size:Int) < 0 by omega)]
  have e1:wrT T (cW 0 d) (dn + 1) = T/\(wrP T (cW 0 d) (dn + 1)).e = 0:=by
   unfold wrT wrP
   rw [f1',f3',if_neg (by decide),if_neg (show ¬ 512 < d.size by omega),hw,if_neg (by decide),if_pos hz0,if_neg (by decide),if_neg (show ¬ 512 < d.size by omega),if_neg (by decide),if_pos hz0]
   exact ⟨rfl,rfl⟩
  rw [e1.1] at hX
  rw [g2,e1.1]
  refine ⟨by rw [g1];exact e1.2,g3,g4,hX,hf,x,hx1,a1,a2,?_,?_⟩
  ·rw [a5.1,a5.2]
   exact Bs.Bl.rErr_ok (show Bs.Bl.right (-1) [] from trivial) (by omega)
  ·rw [a5.1,a5.2,Bs.Bl.rOut_ok (show Bs.Bl.right (-1) [] from trivial) (by omega)]
   refine ByteArray.ext ?_
   rw [← Array.toList_inj]
   have:d.data.toList.length = 0:=hz0
   rw [List.length_eq_zero_iff.1 this]
   rfl
 ·have hwr:Bs.Bl.write x.runs 0 d = [(0,d)]:=by
   rcases a4 with a4 | a4
   ·rw [a4.1,write_nil hz0]
   ·rw [a4.1,write_same hz0 hz]
  have e:tot [(0,d)] = d.size:=by simp [Bs.Bl.total]
  have hB:By T = tot x.runs:=by
   have h2:=dir_size hr hx0 (Sp.root_kind hr hx0)
   rw [hT,By_cons,By_cons,h2]
   simp [By,Bs.Bl.total]
  have g:WrOk T (cW 0 d) 1 x:=by
   refine ⟨rfl,hx1,a1,a2,hz0,hz,Int.le_refl _,by show 0 + (d.size:Int)<=1048576;omega,?_⟩
   show By T + tot (Bs.Bl.write x.runs 0 d)<=_
   rw [hwr,e,hB]
   omega
  obtain ⟨w1,w2,w3,w4⟩:=wr_y h (by omega) g
  obtain ⟨e1,e2⟩:=wr_ok h (by omega) g
  have hro:Bl.right (-1) [(0,d)]:=⟨⟨hz0,by show (-1:Int) < 0;decide,by show 0 + (d.size:Int)<=1048576;omega⟩,trivial⟩
  have hO:wrO x (cW 0 d) = [(0,d)]:=by
   unfold wrO Bs.Bl.wOut
   rw [if_pos w1]
   exact hwr
  have hN:wrN x (cW 0 d) = d.size:=by
   unfold wrN
   rw [hO,bend,end_one hro]
   rcases a4 with a4 | a4
   ·rw [a4.2]
    omega
   ·rw [a4.2.1]
    omega
  have hY:(T.set 1 (wrY x (cW 0 d) (dn + 1))) = [x0,wrY x (cW 0 d) (dn + 1)]:=by rw [hT];rfl
  have hyr:(wrY x (cW 0 d) (dn + 1)).runs = [(0,d)]:=hwr
  rw [e1,hY] at hX
  rw [g2,e1,hY]
  refine ⟨by rw [g1];exact e2,g3,g4,hX,⟨x0,_,rfl,a1,a2,a3,.inr ⟨hyr,hN,hz0⟩⟩,_,rfl,a1,a2,?_,?_⟩
  ·rw [hyr,show (wrY x (cW 0 d) (dn + 1)).size = d.size from hN]
   exact Bs.Bl.rErr_ok ((br _ _).2 hro) (by omega)
  ·rw [hyr,show (wrY x (cW 0 d) (dn + 1)).size = d.size from hN,Bs.Bl.rOut_ok ((br _ _).2 hro) (by omega),show (min 512 ((d.size:Int) - 0)).toNat = d.size by omega]
   have e:=Bs.Bl.over_same (l:=[]) (at_:=0) (d:=d) trivial
   rw [write_nil hz0] at e
   rw [e]
   exact Bs.Bl.txt_bs d
theorem fil_read {x:Ino} (h:RX T O dn (fun _=>False)) (hd:dn < 1099511627776) (hx:T[1]? = some x) (h1:x.gen = 1) (h2:x.kind = 1) (hR:Rd x.runs x.size 0 d):(doR T O dn 4 (cR' 0)).e = 0/\(doR T O dn 4 (cR' 0)).data = d/\doT T O dn 4 (cR' 0) = T/\doO T O dn 4 (cR' 0) = O/\doD T O dn 4 = dn + 1/\RX T O (dn + 1) (fun _=>False):=by
 obtain ⟨g1,g2,g3,g4⟩:=rx_do (c:=cR' 0) (cl:=4) h (by omega) (by decide) (by decide)
 rw [show rep T O (dn + 1) 4 (cR' 0) = readP T (cR' 0) from by simp [rep]] at g1
 rw [show tab T O (dn + 1) 4 (cR' 0) = T from by simp [tab]] at g2
 rw [show ops T O 4 (cR' 0) = O from by simp [ops]] at g3
 have hr:=(Sp.isSp_iff.1 h.sp).1
 obtain ⟨f1,f2,f3⟩:=fnd_ok (e:=405) hr hx (by omega)
 rw [h1,h2] at f1
 rw [h1] at f3
 have f1':fndE T (cR' 0).no (cR' 0).gen 1 405 = 0:=f1
 have f3':findI T (cR' 0).no (cR' 0).gen = x:=f3
 have hE:rdE T (cR' 0) = 0:=by
  unfold rdE
  rw [if_pos f1',f3']
  exact hR.1
 have hD:rdD T (cR' 0) = d:=by
  unfold rdD
  rw [if_pos f1',f3']
  exact hR.2
 rw [g1]
 exact ⟨hE,hD,g2,g3,g4,rx_more h (by omega)⟩
abbrev cCl (k:Int):Cal:=⟨14,0,0,0,0,e0,e0,0,k,e0⟩
theorem fil_close {k:Nat} {c:Int} {cs:List Int} (h:RX T (opl k (c :: cs)) dn (fun _=>False)) (hd:dn < 1099511627776) (hc:0<=c/\c<=1099511627776) (hk:k<=15) (hf:Fil T d):(doR T (opl k (c :: cs)) dn c (cCl k)).e = 0/\doO T (opl k (c :: cs)) dn c (cCl k) = opl (k + 1) cs/\doD T (opl k (c :: cs)) dn c = dn + 1/\RX (doT T (opl k (c :: cs)) dn c (cCl k)) (opl (k + 1) cs) (dn + 1) (fun _=>False)/\(cs≠[]->Fil (doT T (opl k (c :: cs)) dn c (cCl k)) d)/\(cs = []->names (doT T (opl k (c :: cs)) dn c (cCl k)) 1 1 = false):=by
 obtain ⟨g1,g2,g3,g4⟩:=rx_do (c:=cCl k) (cl:=c) h (by omega) hc (right_c (by decide) (by decide) (by decide) (by decide) (by decide) (by decide) (by omega) (by decide))
 have hX0:=(out_close (c:=cCl k) (cl:=c) h (by omega)).rx
 obtain ⟨x0,x,hT,a1,a2,a3,a4⟩:=hf.ex
 have hx1:T[1]? = some x:=by rw [hT];rfl
 have hr:=(Sp.isSp_iff.1 h.sp).1
 obtain ⟨O,hO⟩:∃ O,O = opl k (c :: cs):=⟨_,rfl⟩
 have hfd:O.find? (Os.Op.mine c k) = some ((k:Int),c,1,1):=by
  rw [hO]
  unfold opl
  rw [List.find?_cons]
  have:Os.Op.mine c k ((k:Int),c,1,1) = true:=by simp [Os.Op.mine]
  rw [this]
 rw [← hO] at h g1 g2 g3 g4 hX0 ⊢
 have ha:Os.Op.ask O c = 0:=by unfold Os.Op.ask;rw [if_pos h.os,if_pos (show Os.Op.Cl c from hc)]
 have hcE:Os.Op.closeErr O c k = 0:=by unfold Os.Op.closeErr;rw [if_pos ha,hfd]
 have hcO:Os.Op.closeOf O c k = (((1:Nat):Int),x.gen):=by
  unfold Os.Op.closeOf
  rw [if_pos ha,hfd,a1]
  rfl
 have hno:∀ (cs:List Int) (j:Nat) (z:Os.Opn),z∈opl j cs->(j:Int)<=z.1:=by
  intro cs
  induction cs with
  | nil=>exact fun j z hz=>by cases hz
  | cons e cs ih =>
   intro j z hz
   rcases List.mem_cons.1 hz with rfl | hz
   ·exact Int.le_refl _
   ·have:=ih (j + 1) z hz
    omega
 have hcd:Os.Op.closed O c k = opl (k + 1) cs:=by
  unfold Os.Op.closed
  rw [if_pos ha,hfd]
  show Os.Op.without O [((k:Int),c,1,1)] = _
  rw [Os.Op.without_one h.os hfd,hO,show opl k (c :: cs) = ((k:Int),c,1,1) :: opl (k + 1) cs from rfl,List.filter_cons,if_neg (by simp [Os.Op.mine])]
  refine List.filter_eq_self.2 fun z hz=>?_
  have:=hno cs (k + 1) z hz
  have h2:(z.1 == (k:Int)) = false:=by
   rw [beq_eq_false_iff_ne]
   omega
  unfold Os.Op.mine
  rw [h2]
  simp
 rw [show ops T O c (cCl k) = (if Os.Op.closeErr O c k = 0 then Os.Op.closed O c k else O) from by simp [ops],if_pos hcE,hcd] at g3
 rw [show tab T O (dn + 1) c (cCl k) = clT T O c k from by simp [tab]] at g2
 rw [show rep T O (dn + 1) c (cCl k) = bad (clE T O c k) from by simp [rep]] at g1
 have hX:RX (doT T O dn c (cCl k)) (opl (k + 1) cs) (dn + 1) (fun _=>False):=by
  rw [g2]
  rw [if_pos (show Os.Op.closeErr O c (cCl k).n = 0 from hcE)] at hX0
  have hX1:RX (clT T O c k) (Os.Op.closed O c k) (dn + 1) (fun _=>False):=hX0
  rw [hcd] at hX1
  exact hX1
 unfold clT at g2
 unfold clE at g1
 rw [if_pos hcE,hcd,hcO] at g1 g2
 obtain ⟨k',x',hk',hx',hkx,hRX⟩:=close_rx h hcE
 have e1:k' = 1:=by
  rw [hcO] at hk'
  have:=congrArg Prod.fst hk'
  simp at this
  omega
 subst e1
 rw [hcd] at hRX
 obtain ⟨r1,r2,r3⟩:=rel_rx hRX hx1 a2
 rw [g1]
 refine ⟨r1,g3,g4,hX,fun hne=>?_,fun he=>?_⟩
 ·have hn:needB T (opl (k + 1) cs) (((1:Nat):Int),x.gen) = true:=(need_iff hx1).2 (.inr (by rw [a1];exact opl_held.2 hne))
  rw [g2]
  unfold reT
  rw [if_pos hn]
  exact hf
 ·have hn:needB T (opl (k + 1) cs) (((1:Nat):Int),x.gen) = false:=by
   cases hb:needB T (opl (k + 1) cs) (((1:Nat):Int),x.gen) with
   | false=>rfl
   | true =>
    exfalso
    rcases (need_iff hx1).1 hb with h1 | h1
    ·omega
    ·rw [a1] at h1
     exact opl_held.1 h1 he
  obtain ⟨d1,d2⟩:=drop_zero hr hx1 a2 (by decide)
  rw [g2]
  unfold reT
  rw [hn,d1,d2]
  show names (T.set 1 (gone x.gen)) 1 1 = false
  rw [show (1:Int) = ((1:Nat):Int) from rfl,names_some (get_one hx1 1)]
  exact decide_eq_false fun h=>h.2 rfl
abbrev cAt:Cal:=⟨2,1,1,0,0,e0,e0,0,0,e0⟩
theorem gone_attr (h:RX T O dn (fun _=>False)) (hd:dn < 1099511627776) (hn:names T 1 1 = false):(doR T O dn 4 cAt).e = 401/\doO T O dn 4 cAt = O:=by
 obtain ⟨g1,g2,g3,g4⟩:=rx_do (c:=cAt) (cl:=4) h (by omega) (by decide) (by decide)
 rw [show rep T O (dn + 1) 4 cAt = attrP T cAt from by simp [rep]] at g1
 rw [show ops T O 4 cAt = O from by simp [ops]] at g3
 refine ⟨?_,g3⟩
 have hr:=(Sp.isSp_iff.1 h.sp).1
 have hf:findErr T 1 1 = 401:=by
  rw [find_err hr,hn]
  rfl
 rw [g1]
 unfold attrP
 rw [told_e]
 exact hf
end
end Nf
end Go.Proofs.YtneojimodomohaaGreat
