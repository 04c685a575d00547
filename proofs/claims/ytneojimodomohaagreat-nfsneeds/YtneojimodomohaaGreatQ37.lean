/- NOrq, as one. -/
import Derived.Test.YtneojimodomohaaGreatQ36
namespace Go.Proofs.YtneojimodomohaaGreat
open Go.ChangeShapes Go.WideShapes Go.ChangeAt Go.RowKit Go.Deep It
set_option maxRecDepth 100000
abbrev BH2 (a b:Int):Obj:=.cells #[.int .i64 a,.int .i64 b] 28
theorem wpAny_l {P:Program} {md:Region.Mode} {ops:Array Oper} {Q:Exit->Act->World->Prop} {n:Nat} {l l':Array Bool} {a:Act} {w:World} (h:l = l') (H:wpAny P md ops Q n l' a w):wpAny P md ops Q n l a w:=by rw [h];exact H
abbrev R1:Nf.Rpl:=⟨0,1,1,1,1,0,1,⟨#[]⟩,[],0⟩
set_option linter.unusedSimpArgs false in
set_option maxHeartbeats 8000000 in
theorem orphan_any (w:World):Calls Tryz.prog 10 #[] w fun e w'=>e = .returned (.bool true)/\Below w.heap.size w w':=by
 obtain ⟨W,hW⟩:∃ W,W = w.alloc (BH2 0 1):=⟨_,rfl⟩
 have HB0:Hid (Below w.heap.size w W):=by show Below w.heap.size w W;rw [hW];exact (Below.refl _ w).alloc (Nat.le_refl _) _
 have HA0:Hid (W.heap[w.heap.size]? = some (BH2 0 1)):=by show W.heap[w.heap.size]? = _;rw [hW];exact heap_alloc_new _ _
 have hwW:w.heap.size < W.heap.size:=(qL HA0.out)
 go_enter Tryz.func10,Tryz.ntmps10
 go_wp2_with fail
 rw [← hW]
 clear hW
 apply cut_in
 ·intro hK0
  refine wp_region_any (by kernel_rfl) ?_
  change wpAny _ _ _ _ _ _ _ (World.drew _)
  have HS:(fun V:World=>V.heap[w.heap.size]? = some (BH2 0 1)) W.drew:=HA0.out
  refine Fst.any_of (late:=fun k=>[9,10].contains k) (S:=fun V:World=>V.heap[w.heap.size]? = some (BH2 0 1)) _ _ _ _ ?_
  refine Fst.tk (ls:=[9,10]) (i:=1) (v:=?v1) rfl (Or.inl ⟨by rfl,?h1⟩) HS ?r1
  case h1=>(intro V s;have s0:=cell_at s 0;have s1:=cell_at s 1;simp at s0 s1;go_simp;try with_reducible rfl)
  try simp only [Act.put,qX,qY,qZ]
  refine Fst.takeP (ls:=[9,10]) (i:=2) (v:=?v2) rfl (by kernel_rfl) (by kernel_rfl) (by kernel_rfl) (by kernel_rfl) (fun _ _ _ h=>h) (Or.inl ⟨by rfl,?h2⟩) (HS) ?r2
  case h2=>(intro V _;go_simp;try with_reducible rfl)
  try simp only [Act.put,qX,qY,qZ]
  clear HS
  refine Fst.three (late:=fun k=>[9,10].contains k) (i:=0) (j:=7) (m:=8) (by kernel_rfl) rfl rfl rfl (fun K hK=>?_) (fun K hK=>?_) (fun K hK=>?_)
  ·go_simp
   refine (nnew_any _).mono ?_
   rintro e v1 ⟨ap,n,cp,L0,rfl,ht,hp,hb⟩
   have HB2:Hid (Below W.heap.size W v1):=undrew hb
   have HT3:Hid (TabAt (fun b=>W.heap.size<=b) v1 (.slice ap n cp) L0):=ht.imp (fun b hb _=>by exact hb)
   have HP0:Hid (pl L0 = It.new):=hp
   clear ht hp hb
   first | (refine hK _ _ ((HB2.out.block _ hwW).trans HA0.out) ?_;clear hK K) | skip
   try simp only [Act.put,qX,qY,qZ]
   refine Fst.three (late:=fun k=>[9,10].contains k) (i:=3) (j:=7) (m:=8) (by kernel_rfl) rfl rfl rfl (fun K hK=>?_) (fun K hK=>?_) (fun K hK=>?_)
   ·go_simp
    refine (do_step (R:=R1) (T:=Nf.F1) (Q:=[]) (D:=1) (dn:=0) (cl:=5) (c:=Nf.c1) (O:=[]) (vo:=.slice none 0 0) (sp:=none) (sn:=0) (sc:=0) HT3.out At.nil (Sp.okN_sp (by rw [HP0.out];exact Nf.isSp_new)) (by unfold maxLen;decide) (by rw [HP0.out];exact Nf.step1.1) (by rw [HP0.out];exact Nf.step1.2.1) (by rw [HP0.out];exact Nf.step1.2.2.1) (by rw [HP0.out];exact Nf.step1.2.2.2)).mono ?_
    rintro e v4 ⟨ep,en,ec,up,un,uc,op,on,oc,L1,rfl,ht,hp,hq,-,hb⟩
    obtain ⟨_,_,hq2,-,-⟩:=hq.open
    have hon:on = 0:=by injection hq2
    clear hq hq2
    subst hon
    have HB5:Hid (Below W.heap.size W v4):=HB2.out.trans (hb.mono HB2.out.size)
    have hsz:=HB2.out.size
    have HT6:Hid (TabAt (fun b=>W.heap.size<=b) v4 (.slice up un uc) L1):=ht.imp (fun b hb _=>by omega)
    have HP1:Hid (pl L1 = Nf.F1):=hp
    clear ht hp hb hsz
    first | (refine hK _ _ ((HB5.out.block _ hwW).trans HA0.out) ?_;clear hK K) | skip
    try simp only [Act.put,qX,qY,qZ]
    refine Fst.takeP (ls:=[9,10]) (i:=4) (v:=?v3) rfl (by kernel_rfl) (by kernel_rfl) (by kernel_rfl) (by kernel_rfl) (fun _ _ _ h=>h) (Or.inl ⟨by rfl,?h3⟩) ((HB5.out.block _ hwW).trans HA0.out) ?r3
    case h3=>(intro V _;go_simp;try with_reducible rfl)
    try simp only [Act.put,qX,qY,qZ]
    refine Fst.takeP (ls:=[9,10]) (i:=5) (v:=?v4) rfl (by kernel_rfl) (by kernel_rfl) (by kernel_rfl) (by kernel_rfl) (fun _ _ _ h=>h) (Or.inl ⟨by rfl,?h4⟩) ((HB5.out.block _ hwW).trans HA0.out) ?r4
    case h4=>(intro V _;go_simp;try with_reducible rfl)
    try simp only [Act.put,qX,qY,qZ]
    refine Fst.takeP (ls:=[9,10]) (i:=6) (v:=?v5) rfl (by kernel_rfl) (by kernel_rfl) (by kernel_rfl) (by kernel_rfl) (fun _ _ _ h=>h) (Or.inl ⟨by rfl,?h5⟩) ((HB5.out.block _ hwW).trans HA0.out) ?r5
    case h5=>(intro V _;go_simp;try with_reducible rfl)
    try simp only [Act.put,qX,qY,qZ]
    refine Fst.both (late:=fun k=>[9,10].contains k) (i:=7) (j:=8) (by kernel_rfl) rfl rfl (fun K hK=>?_) (fun K hK=>?_)
    ·go_simp
     obtain ⟨v7,hv7⟩:∃ v,v = v4.alloc BS0:=⟨_,rfl⟩
     obtain ⟨A7,hA⟩:∃ a,a = v4.heap.size:=⟨_,rfl⟩
     have hb:Below v4.heap.size v4 v7:=by rw [hv7];exact (Below.refl _ _).alloc (Nat.le_refl _) _
     have HF9:Hid (v7.heap[A7]? = some BS0):=by show v7.heap[A7]? = _;rw [hv7,hA];exact heap_alloc_new v4 _
     have HB8:Hid (Below W.heap.size W v7):=HB5.out.trans (hb.mono HB5.out.size)
     have hw7:W.heap.size<=A7:=by have h:=HB5.out.size;omega
     have HT10:Hid (TabAt (fun b=>W.heap.size<=b/\b≠A7) v7 (.slice up un uc) L1):=(HT6.out.imp (fun b hb hl=>by refine ⟨by omega,by omega⟩)).up hb
     rw [← hv7,← hA]
     clear hv7 hA hb
     first | (refine hK _ _ ((HB8.out.block _ hwW).trans HA0.out) ?_;clear hK K) | skip
     try simp only [Act.put,qX,qY,qZ]
     refine Fst.one (late:=fun k=>[9,10].contains k) (i:=8) (by kernel_rfl) rfl (fun K hK=>?_)
     go_simp
     obtain ⟨v11,hv11⟩:∃ v,v = v7.alloc BR0:=⟨_,rfl⟩
     obtain ⟨A8,hA⟩:∃ a,a = v7.heap.size:=⟨_,rfl⟩
     have hb:Below v7.heap.size v7 v11:=by rw [hv11];exact (Below.refl _ _).alloc (Nat.le_refl _) _
     have HF13:Hid (v11.heap[A8]? = some BR0):=by show v11.heap[A8]? = _;rw [hv11,hA];exact heap_alloc_new v7 _
     have HB12:Hid (Below W.heap.size W v11):=HB8.out.trans (hb.mono HB8.out.size)
     have HF14:Hid (v11.heap[A7]? = some BS0):=(hb.block _ (qL HF9.out)).trans HF9.out
     have hd7:A7≠A8:=by have h:=(qL HF9.out);omega
     have hw8:W.heap.size<=A8:=by have h:=HB8.out.size;omega
     have HT15:Hid (TabAt (fun b=>W.heap.size<=b/\b≠A7/\b≠A8) v11 (.slice up un uc) L1):=(HT10.out.imp (fun b hb hl=>by refine ⟨by omega,by omega,by omega⟩)).up hb
     rw [← hv11,← hA]
     clear hv11 hA hb
     first | (refine hK _ _ ((HB12.out.block _ hwW).trans HA0.out) ?_;clear hK K) | skip
     try simp only [Act.put,qX,qY,qZ]
     refine Fst.rest (by kernel_rfl) ?_
     have HR:Hid (v11.heap[A7]? = some BS0/\v11.heap[A8]? = some BR0/\A7≠A8/\W.heap.size<=A7/\W.heap.size<=A8/\TabAt (fun b=>W.heap.size<=b/\b≠A7/\b≠A8) v11 (.slice up un uc) L1/\pl L1 = Nf.F1/\Below W.heap.size W v11):=⟨HF14.out,HF13.out,by omega,by omega,by omega,HT15.out.imp (fun b hb _=>⟨hb.1,by omega,by omega⟩),HP1.out,HB12.out⟩
     clear HT3 HP0 HB2 HT6 HP1 HB5 hw7 HF9 HT10 HB8 HF14 hd7 hw8 HF13 HT15 HB12
     refine wpAny_l (l':=#[true,true,true,true,true,true,true,true,true,false,false]) (by kernel_rfl) ?_
     revert HR
     revert v11
     revert A8
     revert A7
     revert L1
     revert oc
     revert op
     revert uc
     revert un
     revert up
     revert ec
     revert en
     revert ep
     revert cp
     revert n
     revert ap
     exact hK0.out
    ·go_simp
     obtain ⟨v16,hv16⟩:∃ v,v = v4.alloc BR0:=⟨_,rfl⟩
     obtain ⟨A8,hA⟩:∃ a,a = v4.heap.size:=⟨_,rfl⟩
     have hb:Below v4.heap.size v4 v16:=by rw [hv16];exact (Below.refl _ _).alloc (Nat.le_refl _) _
     have HF18:Hid (v16.heap[A8]? = some BR0):=by show v16.heap[A8]? = _;rw [hv16,hA];exact heap_alloc_new v4 _
     have HB17:Hid (Below W.heap.size W v16):=HB5.out.trans (hb.mono HB5.out.size)
     have hw8:W.heap.size<=A8:=by have h:=HB5.out.size;omega
     have HT19:Hid (TabAt (fun b=>W.heap.size<=b/\b≠A8) v16 (.slice up un uc) L1):=(HT6.out.imp (fun b hb hl=>by refine ⟨by omega,by omega⟩)).up hb
     rw [← hv16,← hA]
     clear hv16 hA hb
     first | (refine hK _ _ ((HB17.out.block _ hwW).trans HA0.out) ?_;clear hK K) | skip
     try simp only [Act.put,qX,qY,qZ]
     refine Fst.one (late:=fun k=>[9,10].contains k) (i:=7) (by kernel_rfl) rfl (fun K hK=>?_)
     go_simp
     obtain ⟨v20,hv20⟩:∃ v,v = v16.alloc BS0:=⟨_,rfl⟩
     obtain ⟨A7,hA⟩:∃ a,a = v16.heap.size:=⟨_,rfl⟩
     have hb:Below v16.heap.size v16 v20:=by rw [hv20];exact (Below.refl _ _).alloc (Nat.le_refl _) _
     have HF22:Hid (v20.heap[A7]? = some BS0):=by show v20.heap[A7]? = _;rw [hv20,hA];exact heap_alloc_new v16 _
     have HB21:Hid (Below W.heap.size W v20):=HB17.out.trans (hb.mono HB17.out.size)
     have HF23:Hid (v20.heap[A8]? = some BR0):=(hb.block _ (qL HF18.out)).trans HF18.out
     have hd8:A8≠A7:=by have h:=(qL HF18.out);omega
     have hw7:W.heap.size<=A7:=by have h:=HB17.out.size;omega
     have HT24:Hid (TabAt (fun b=>W.heap.size<=b/\b≠A7/\b≠A8) v20 (.slice up un uc) L1):=(HT19.out.imp (fun b hb hl=>by refine ⟨by omega,by omega,by omega⟩)).up hb
     rw [← hv20,← hA]
     clear hv20 hA hb
     first | (refine hK _ _ ((HB21.out.block _ hwW).trans HA0.out) ?_;clear hK K) | skip
     try simp only [Act.put,qX,qY,qZ]
     refine Fst.rest (by kernel_rfl) ?_
     have HR:Hid (v20.heap[A7]? = some BS0/\v20.heap[A8]? = some BR0/\A7≠A8/\W.heap.size<=A7/\W.heap.size<=A8/\TabAt (fun b=>W.heap.size<=b/\b≠A7/\b≠A8) v20 (.slice up un uc) L1/\pl L1 = Nf.F1/\Below W.heap.size W v20):=⟨HF22.out,HF23.out,by omega,by omega,by omega,HT24.out.imp (fun b hb _=>⟨hb.1,by omega,by omega⟩),HP1.out,HB21.out⟩
     clear HT3 HP0 HB2 HT6 HP1 HB5 hw8 HF18 HT19 HB17 HF23 hd8 hw7 HF22 HT24 HB21
     refine wpAny_l (l':=#[true,true,true,true,true,true,true,true,true,false,false]) (by kernel_rfl) ?_
     revert HR
     revert v20
     revert A8
     revert A7
     revert L1
     revert oc
     revert op
     revert uc
     revert un
     revert up
     revert ec
     revert en
     revert ep
     revert cp
     revert n
     revert ap
     exact hK0.out
   ·go_simp
    obtain ⟨v25,hv25⟩:∃ v,v = v1.alloc BS0:=⟨_,rfl⟩
    obtain ⟨A7,hA⟩:∃ a,a = v1.heap.size:=⟨_,rfl⟩
    have hb:Below v1.heap.size v1 v25:=by rw [hv25];exact (Below.refl _ _).alloc (Nat.le_refl _) _
    have HF27:Hid (v25.heap[A7]? = some BS0):=by show v25.heap[A7]? = _;rw [hv25,hA];exact heap_alloc_new v1 _
    have HB26:Hid (Below W.heap.size W v25):=HB2.out.trans (hb.mono HB2.out.size)
    have hw7:W.heap.size<=A7:=by have h:=HB2.out.size;omega
    have HT28:Hid (TabAt (fun b=>W.heap.size<=b/\b≠A7) v25 (.slice ap n cp) L0):=(HT3.out.imp (fun b hb hl=>by refine ⟨by omega,by omega⟩)).up hb
    rw [← hv25,← hA]
    clear hv25 hA hb
    first | (refine hK _ _ ((HB26.out.block _ hwW).trans HA0.out) ?_;clear hK K) | skip
    try simp only [Act.put,qX,qY,qZ]
    refine Fst.both (late:=fun k=>[9,10].contains k) (i:=3) (j:=8) (by kernel_rfl) rfl rfl (fun K hK=>?_) (fun K hK=>?_)
    ·go_simp
     refine (do_step (R:=R1) (T:=Nf.F1) (Q:=[]) (D:=1) (dn:=0) (cl:=5) (c:=Nf.c1) (O:=[]) (vo:=.slice none 0 0) (sp:=none) (sn:=0) (sc:=0) HT28.out At.nil (Sp.okN_sp (by rw [HP0.out];exact Nf.isSp_new)) (by unfold maxLen;decide) (by rw [HP0.out];exact Nf.step1.1) (by rw [HP0.out];exact Nf.step1.2.1) (by rw [HP0.out];exact Nf.step1.2.2.1) (by rw [HP0.out];exact Nf.step1.2.2.2)).mono ?_
     rintro e v29 ⟨ep,en,ec,up,un,uc,op,on,oc,L1,rfl,ht,hp,hq,-,hb⟩
     obtain ⟨_,_,hq2,-,-⟩:=hq.open
     have hon:on = 0:=by injection hq2
     clear hq hq2
     subst hon
     have HB30:Hid (Below W.heap.size W v29):=HB26.out.trans (hb.mono HB26.out.size)
     have HF31:Hid (v29.heap[A7]? = some BS0):=(hb.block _ (qL HF27.out)).trans HF27.out
     have hl7:=(qL HF27.out)
     have hsz:=HB26.out.size
     have HT32:Hid (TabAt (fun b=>W.heap.size<=b/\b≠A7) v29 (.slice up un uc) L1):=ht.imp (fun b hb _=>by refine ⟨by omega,by omega⟩)
     have HP1:Hid (pl L1 = Nf.F1):=hp
     clear ht hp hb hsz hl7
     first | (refine hK _ _ ((HB30.out.block _ hwW).trans HA0.out) ?_;clear hK K) | skip
     try simp only [Act.put,qX,qY,qZ]
     refine Fst.takeP (ls:=[9,10]) (i:=4) (v:=?v6) rfl (by kernel_rfl) (by kernel_rfl) (by kernel_rfl) (by kernel_rfl) (fun _ _ _ h=>h) (Or.inl ⟨by rfl,?h6⟩) ((HB30.out.block _ hwW).trans HA0.out) ?r6
     case h6=>(intro V _;go_simp;try with_reducible rfl)
     try simp only [Act.put,qX,qY,qZ]
     refine Fst.takeP (ls:=[9,10]) (i:=5) (v:=?v7) rfl (by kernel_rfl) (by kernel_rfl) (by kernel_rfl) (by kernel_rfl) (fun _ _ _ h=>h) (Or.inl ⟨by rfl,?h7⟩) ((HB30.out.block _ hwW).trans HA0.out) ?r7
     case h7=>(intro V _;go_simp;try with_reducible rfl)
     try simp only [Act.put,qX,qY,qZ]
     refine Fst.takeP (ls:=[9,10]) (i:=6) (v:=?v8) rfl (by kernel_rfl) (by kernel_rfl) (by kernel_rfl) (by kernel_rfl) (fun _ _ _ h=>h) (Or.inl ⟨by rfl,?h8⟩) ((HB30.out.block _ hwW).trans HA0.out) ?r8
     case h8=>(intro V _;go_simp;try with_reducible rfl)
     try simp only [Act.put,qX,qY,qZ]
     refine Fst.one (late:=fun k=>[9,10].contains k) (i:=8) (by kernel_rfl) rfl (fun K hK=>?_)
     go_simp
     obtain ⟨v33,hv33⟩:∃ v,v = v29.alloc BR0:=⟨_,rfl⟩
     obtain ⟨A8,hA⟩:∃ a,a = v29.heap.size:=⟨_,rfl⟩
     have hb:Below v29.heap.size v29 v33:=by rw [hv33];exact (Below.refl _ _).alloc (Nat.le_refl _) _
     have HF35:Hid (v33.heap[A8]? = some BR0):=by show v33.heap[A8]? = _;rw [hv33,hA];exact heap_alloc_new v29 _
     have HB34:Hid (Below W.heap.size W v33):=HB30.out.trans (hb.mono HB30.out.size)
     have HF36:Hid (v33.heap[A7]? = some BS0):=(hb.block _ (qL HF31.out)).trans HF31.out
     have hd7:A7≠A8:=by have h:=(qL HF31.out);omega
     have hw8:W.heap.size<=A8:=by have h:=HB30.out.size;omega
     have HT37:Hid (TabAt (fun b=>W.heap.size<=b/\b≠A7/\b≠A8) v33 (.slice up un uc) L1):=(HT32.out.imp (fun b hb hl=>by refine ⟨by omega,by omega,by omega⟩)).up hb
     rw [← hv33,← hA]
     clear hv33 hA hb
     first | (refine hK _ _ ((HB34.out.block _ hwW).trans HA0.out) ?_;clear hK K) | skip
     try simp only [Act.put,qX,qY,qZ]
     refine Fst.rest (by kernel_rfl) ?_
     have HR:Hid (v33.heap[A7]? = some BS0/\v33.heap[A8]? = some BR0/\A7≠A8/\W.heap.size<=A7/\W.heap.size<=A8/\TabAt (fun b=>W.heap.size<=b/\b≠A7/\b≠A8) v33 (.slice up un uc) L1/\pl L1 = Nf.F1/\Below W.heap.size W v33):=⟨HF36.out,HF35.out,by omega,by omega,by omega,HT37.out.imp (fun b hb _=>⟨hb.1,by omega,by omega⟩),HP1.out,HB34.out⟩
     clear HT3 HP0 HB2 hw7 HF27 HT28 HB26 HF31 HT32 HP1 HB30 HF36 hd7 hw8 HF35 HT37 HB34
     refine wpAny_l (l':=#[true,true,true,true,true,true,true,true,true,false,false]) (by kernel_rfl) ?_
     revert HR
     revert v33
     revert A8
     revert A7
     revert L1
     revert oc
     revert op
     revert uc
     revert un
     revert up
     revert ec
     revert en
     revert ep
     revert cp
     revert n
     revert ap
     exact hK0.out
    ·go_simp
     obtain ⟨v38,hv38⟩:∃ v,v = v25.alloc BR0:=⟨_,rfl⟩
     obtain ⟨A8,hA⟩:∃ a,a = v25.heap.size:=⟨_,rfl⟩
     have hb:Below v25.heap.size v25 v38:=by rw [hv38];exact (Below.refl _ _).alloc (Nat.le_refl _) _
     have HF40:Hid (v38.heap[A8]? = some BR0):=by show v38.heap[A8]? = _;rw [hv38,hA];exact heap_alloc_new v25 _
     have HB39:Hid (Below W.heap.size W v38):=HB26.out.trans (hb.mono HB26.out.size)
     have HF41:Hid (v38.heap[A7]? = some BS0):=(hb.block _ (qL HF27.out)).trans HF27.out
     have hd7:A7≠A8:=by have h:=(qL HF27.out);omega
     have hw8:W.heap.size<=A8:=by have h:=HB26.out.size;omega
     have HT42:Hid (TabAt (fun b=>W.heap.size<=b/\b≠A7/\b≠A8) v38 (.slice ap n cp) L0):=(HT28.out.imp (fun b hb hl=>by refine ⟨by omega,by omega,by omega⟩)).up hb
     rw [← hv38,← hA]
     clear hv38 hA hb
     first | (refine hK _ _ ((HB39.out.block _ hwW).trans HA0.out) ?_;clear hK K) | skip
     try simp only [Act.put,qX,qY,qZ]
     refine Fst.one (late:=fun k=>[9,10].contains k) (i:=3) (by kernel_rfl) rfl (fun K hK=>?_)
     go_simp
     refine (do_step (R:=R1) (T:=Nf.F1) (Q:=[]) (D:=1) (dn:=0) (cl:=5) (c:=Nf.c1) (O:=[]) (vo:=.slice none 0 0) (sp:=none) (sn:=0) (sc:=0) HT42.out At.nil (Sp.okN_sp (by rw [HP0.out];exact Nf.isSp_new)) (by unfold maxLen;decide) (by rw [HP0.out];exact Nf.step1.1) (by rw [HP0.out];exact Nf.step1.2.1) (by rw [HP0.out];exact Nf.step1.2.2.1) (by rw [HP0.out];exact Nf.step1.2.2.2)).mono ?_
     rintro e v43 ⟨ep,en,ec,up,un,uc,op,on,oc,L1,rfl,ht,hp,hq,-,hb⟩
     obtain ⟨_,_,hq2,-,-⟩:=hq.open
     have hon:on = 0:=by injection hq2
     clear hq hq2
     subst hon
     have HB44:Hid (Below W.heap.size W v43):=HB39.out.trans (hb.mono HB39.out.size)
     have HF45:Hid (v43.heap[A7]? = some BS0):=(hb.block _ (qL HF41.out)).trans HF41.out
     have HF46:Hid (v43.heap[A8]? = some BR0):=(hb.block _ (qL HF40.out)).trans HF40.out
     have hl7:=(qL HF41.out)
     have hl8:=(qL HF40.out)
     have hsz:=HB39.out.size
     have HT47:Hid (TabAt (fun b=>W.heap.size<=b/\b≠A7/\b≠A8) v43 (.slice up un uc) L1):=ht.imp (fun b hb _=>by refine ⟨by omega,by omega,by omega⟩)
     have HP1:Hid (pl L1 = Nf.F1):=hp
     clear ht hp hb hsz hl7 hl8
     first | (refine hK _ _ ((HB44.out.block _ hwW).trans HA0.out) ?_;clear hK K) | skip
     try simp only [Act.put,qX,qY,qZ]
     refine Fst.takeP (ls:=[9,10]) (i:=4) (v:=?v9) rfl (by kernel_rfl) (by kernel_rfl) (by kernel_rfl) (by kernel_rfl) (fun _ _ _ h=>h) (Or.inl ⟨by rfl,?h9⟩) ((HB44.out.block _ hwW).trans HA0.out) ?r9
     case h9=>(intro V _;go_simp;try with_reducible rfl)
     try simp only [Act.put,qX,qY,qZ]
     refine Fst.takeP (ls:=[9,10]) (i:=5) (v:=?v10) rfl (by kernel_rfl) (by kernel_rfl) (by kernel_rfl) (by kernel_rfl) (fun _ _ _ h=>h) (Or.inl ⟨by rfl,?h10⟩) ((HB44.out.block _ hwW).trans HA0.out) ?r10
     case h10=>(intro V _;go_simp;try with_reducible rfl)
     try simp only [Act.put,qX,qY,qZ]
     refine Fst.takeP (ls:=[9,10]) (i:=6) (v:=?v11) rfl (by kernel_rfl) (by kernel_rfl) (by kernel_rfl) (by kernel_rfl) (fun _ _ _ h=>h) (Or.inl ⟨by rfl,?h11⟩) ((HB44.out.block _ hwW).trans HA0.out) ?r11
     case h11=>(intro V _;go_simp;try with_reducible rfl)
     try simp only [Act.put,qX,qY,qZ]
     refine Fst.rest (by kernel_rfl) ?_
     have HR:Hid (v43.heap[A7]? = some BS0/\v43.heap[A8]? = some BR0/\A7≠A8/\W.heap.size<=A7/\W.heap.size<=A8/\TabAt (fun b=>W.heap.size<=b/\b≠A7/\b≠A8) v43 (.slice up un uc) L1/\pl L1 = Nf.F1/\Below W.heap.size W v43):=⟨HF45.out,HF46.out,by omega,by omega,by omega,HT47.out.imp (fun b hb _=>⟨hb.1,by omega,by omega⟩),HP1.out,HB44.out⟩
     clear HT3 HP0 HB2 hw7 HF27 HT28 HB26 HF41 hd7 hw8 HF40 HT42 HB39 HF45 HF46 HT47 HP1 HB44
     refine wpAny_l (l':=#[true,true,true,true,true,true,true,true,true,false,false]) (by kernel_rfl) ?_
     revert HR
     revert v43
     revert A8
     revert A7
     revert L1
     revert oc
     revert op
     revert uc
     revert un
     revert up
     revert ec
     revert en
     revert ep
     revert cp
     revert n
     revert ap
     exact hK0.out
   ·go_simp
    obtain ⟨v48,hv48⟩:∃ v,v = v1.alloc BR0:=⟨_,rfl⟩
    obtain ⟨A8,hA⟩:∃ a,a = v1.heap.size:=⟨_,rfl⟩
    have hb:Below v1.heap.size v1 v48:=by rw [hv48];exact (Below.refl _ _).alloc (Nat.le_refl _) _
    have HF50:Hid (v48.heap[A8]? = some BR0):=by show v48.heap[A8]? = _;rw [hv48,hA];exact heap_alloc_new v1 _
    have HB49:Hid (Below W.heap.size W v48):=HB2.out.trans (hb.mono HB2.out.size)
    have hw8:W.heap.size<=A8:=by have h:=HB2.out.size;omega
    have HT51:Hid (TabAt (fun b=>W.heap.size<=b/\b≠A8) v48 (.slice ap n cp) L0):=(HT3.out.imp (fun b hb hl=>by refine ⟨by omega,by omega⟩)).up hb
    rw [← hv48,← hA]
    clear hv48 hA hb
    first | (refine hK _ _ ((HB49.out.block _ hwW).trans HA0.out) ?_;clear hK K) | skip
    try simp only [Act.put,qX,qY,qZ]
    refine Fst.both (late:=fun k=>[9,10].contains k) (i:=3) (j:=7) (by kernel_rfl) rfl rfl (fun K hK=>?_) (fun K hK=>?_)
    ·go_simp
     refine (do_step (R:=R1) (T:=Nf.F1) (Q:=[]) (D:=1) (dn:=0) (cl:=5) (c:=Nf.c1) (O:=[]) (vo:=.slice none 0 0) (sp:=none) (sn:=0) (sc:=0) HT51.out At.nil (Sp.okN_sp (by rw [HP0.out];exact Nf.isSp_new)) (by unfold maxLen;decide) (by rw [HP0.out];exact Nf.step1.1) (by rw [HP0.out];exact Nf.step1.2.1) (by rw [HP0.out];exact Nf.step1.2.2.1) (by rw [HP0.out];exact Nf.step1.2.2.2)).mono ?_
     rintro e v52 ⟨ep,en,ec,up,un,uc,op,on,oc,L1,rfl,ht,hp,hq,-,hb⟩
     obtain ⟨_,_,hq2,-,-⟩:=hq.open
     have hon:on = 0:=by injection hq2
     clear hq hq2
     subst hon
     have HB53:Hid (Below W.heap.size W v52):=HB49.out.trans (hb.mono HB49.out.size)
     have HF54:Hid (v52.heap[A8]? = some BR0):=(hb.block _ (qL HF50.out)).trans HF50.out
     have hl8:=(qL HF50.out)
     have hsz:=HB49.out.size
     have HT55:Hid (TabAt (fun b=>W.heap.size<=b/\b≠A8) v52 (.slice up un uc) L1):=ht.imp (fun b hb _=>by refine ⟨by omega,by omega⟩)
     have HP1:Hid (pl L1 = Nf.F1):=hp
     clear ht hp hb hsz hl8
     first | (refine hK _ _ ((HB53.out.block _ hwW).trans HA0.out) ?_;clear hK K) | skip
     try simp only [Act.put,qX,qY,qZ]
     refine Fst.takeP (ls:=[9,10]) (i:=4) (v:=?v12) rfl (by kernel_rfl) (by kernel_rfl) (by kernel_rfl) (by kernel_rfl) (fun _ _ _ h=>h) (Or.inl ⟨by rfl,?h12⟩) ((HB53.out.block _ hwW).trans HA0.out) ?r12
     case h12=>(intro V _;go_simp;try with_reducible rfl)
     try simp only [Act.put,qX,qY,qZ]
     refine Fst.takeP (ls:=[9,10]) (i:=5) (v:=?v13) rfl (by kernel_rfl) (by kernel_rfl) (by kernel_rfl) (by kernel_rfl) (fun _ _ _ h=>h) (Or.inl ⟨by rfl,?h13⟩) ((HB53.out.block _ hwW).trans HA0.out) ?r13
     case h13=>(intro V _;go_simp;try with_reducible rfl)
     try simp only [Act.put,qX,qY,qZ]
     refine Fst.takeP (ls:=[9,10]) (i:=6) (v:=?v14) rfl (by kernel_rfl) (by kernel_rfl) (by kernel_rfl) (by kernel_rfl) (fun _ _ _ h=>h) (Or.inl ⟨by rfl,?h14⟩) ((HB53.out.block _ hwW).trans HA0.out) ?r14
     case h14=>(intro V _;go_simp;try with_reducible rfl)
     try simp only [Act.put,qX,qY,qZ]
     refine Fst.one (late:=fun k=>[9,10].contains k) (i:=7) (by kernel_rfl) rfl (fun K hK=>?_)
     go_simp
     obtain ⟨v56,hv56⟩:∃ v,v = v52.alloc BS0:=⟨_,rfl⟩
     obtain ⟨A7,hA⟩:∃ a,a = v52.heap.size:=⟨_,rfl⟩
     have hb:Below v52.heap.size v52 v56:=by rw [hv56];exact (Below.refl _ _).alloc (Nat.le_refl _) _
     have HF58:Hid (v56.heap[A7]? = some BS0):=by show v56.heap[A7]? = _;rw [hv56,hA];exact heap_alloc_new v52 _
     have HB57:Hid (Below W.heap.size W v56):=HB53.out.trans (hb.mono HB53.out.size)
     have HF59:Hid (v56.heap[A8]? = some BR0):=(hb.block _ (qL HF54.out)).trans HF54.out
     have hd8:A8≠A7:=by have h:=(qL HF54.out);omega
     have hw7:W.heap.size<=A7:=by have h:=HB53.out.size;omega
     have HT60:Hid (TabAt (fun b=>W.heap.size<=b/\b≠A7/\b≠A8) v56 (.slice up un uc) L1):=(HT55.out.imp (fun b hb hl=>by refine ⟨by omega,by omega,by omega⟩)).up hb
     rw [← hv56,← hA]
     clear hv56 hA hb
     first | (refine hK _ _ ((HB57.out.block _ hwW).trans HA0.out) ?_;clear hK K) | skip
     try simp only [Act.put,qX,qY,qZ]
     refine Fst.rest (by kernel_rfl) ?_
     have HR:Hid (v56.heap[A7]? = some BS0/\v56.heap[A8]? = some BR0/\A7≠A8/\W.heap.size<=A7/\W.heap.size<=A8/\TabAt (fun b=>W.heap.size<=b/\b≠A7/\b≠A8) v56 (.slice up un uc) L1/\pl L1 = Nf.F1/\Below W.heap.size W v56):=⟨HF58.out,HF59.out,by omega,by omega,by omega,HT60.out.imp (fun b hb _=>⟨hb.1,by omega,by omega⟩),HP1.out,HB57.out⟩
     clear HT3 HP0 HB2 hw8 HF50 HT51 HB49 HF54 HT55 HP1 HB53 HF59 hd8 hw7 HF58 HT60 HB57
     refine wpAny_l (l':=#[true,true,true,true,true,true,true,true,true,false,false]) (by kernel_rfl) ?_
     revert HR
     revert v56
     revert A8
     revert A7
     revert L1
     revert oc
     revert op
     revert uc
     revert un
     revert up
     revert ec
     revert en
     revert ep
     revert cp
     revert n
     revert ap
     exact hK0.out
    ·go_simp
     obtain ⟨v61,hv61⟩:∃ v,v = v48.alloc BS0:=⟨_,rfl⟩
     obtain ⟨A7,hA⟩:∃ a,a = v48.heap.size:=⟨_,rfl⟩
     have hb:Below v48.heap.size v48 v61:=by rw [hv61];exact (Below.refl _ _).alloc (Nat.le_refl _) _
     have HF63:Hid (v61.heap[A7]? = some BS0):=by show v61.heap[A7]? = _;rw [hv61,hA];exact heap_alloc_new v48 _
     have HB62:Hid (Below W.heap.size W v61):=HB49.out.trans (hb.mono HB49.out.size)
     have HF64:Hid (v61.heap[A8]? = some BR0):=(hb.block _ (qL HF50.out)).trans HF50.out
     have hd8:A8≠A7:=by have h:=(qL HF50.out);omega
     have hw7:W.heap.size<=A7:=by have h:=HB49.out.size;omega
     have HT65:Hid (TabAt (fun b=>W.heap.size<=b/\b≠A7/\b≠A8) v61 (.slice ap n cp) L0):=(HT51.out.imp (fun b hb hl=>by refine ⟨by omega,by omega,by omega⟩)).up hb
     rw [← hv61,← hA]
     clear hv61 hA hb
     first | (refine hK _ _ ((HB62.out.block _ hwW).trans HA0.out) ?_;clear hK K) | skip
     try simp only [Act.put,qX,qY,qZ]
     refine Fst.one (late:=fun k=>[9,10].contains k) (i:=3) (by kernel_rfl) rfl (fun K hK=>?_)
     go_simp
     refine (do_step (R:=R1) (T:=Nf.F1) (Q:=[]) (D:=1) (dn:=0) (cl:=5) (c:=Nf.c1) (O:=[]) (vo:=.slice none 0 0) (sp:=none) (sn:=0) (sc:=0) HT65.out At.nil (Sp.okN_sp (by rw [HP0.out];exact Nf.isSp_new)) (by unfold maxLen;decide) (by rw [HP0.out];exact Nf.step1.1) (by rw [HP0.out];exact Nf.step1.2.1) (by rw [HP0.out];exact Nf.step1.2.2.1) (by rw [HP0.out];exact Nf.step1.2.2.2)).mono ?_
     rintro e v66 ⟨ep,en,ec,up,un,uc,op,on,oc,L1,rfl,ht,hp,hq,-,hb⟩
     obtain ⟨_,_,hq2,-,-⟩:=hq.open
     have hon:on = 0:=by injection hq2
     clear hq hq2
     subst hon
     have HB67:Hid (Below W.heap.size W v66):=HB62.out.trans (hb.mono HB62.out.size)
     have HF68:Hid (v66.heap[A8]? = some BR0):=(hb.block _ (qL HF64.out)).trans HF64.out
     have HF69:Hid (v66.heap[A7]? = some BS0):=(hb.block _ (qL HF63.out)).trans HF63.out
     have hl8:=(qL HF64.out)
     have hl7:=(qL HF63.out)
     have hsz:=HB62.out.size
     have HT70:Hid (TabAt (fun b=>W.heap.size<=b/\b≠A7/\b≠A8) v66 (.slice up un uc) L1):=ht.imp (fun b hb _=>by refine ⟨by omega,by omega,by omega⟩)
     have HP1:Hid (pl L1 = Nf.F1):=hp
     clear ht hp hb hsz hl8 hl7
     first | (refine hK _ _ ((HB67.out.block _ hwW).trans HA0.out) ?_;clear hK K) | skip
     try simp only [Act.put,qX,qY,qZ]
     refine Fst.takeP (ls:=[9,10]) (i:=4) (v:=?v15) rfl (by kernel_rfl) (by kernel_rfl) (by kernel_rfl) (by kernel_rfl) (fun _ _ _ h=>h) (Or.inl ⟨by rfl,?h15⟩) ((HB67.out.block _ hwW).trans HA0.out) ?r15
     case h15=>(intro V _;go_simp;try with_reducible rfl)
     try simp only [Act.put,qX,qY,qZ]
     refine Fst.takeP (ls:=[9,10]) (i:=5) (v:=?v16) rfl (by kernel_rfl) (by kernel_rfl) (by kernel_rfl) (by kernel_rfl) (fun _ _ _ h=>h) (Or.inl ⟨by rfl,?h16⟩) ((HB67.out.block _ hwW).trans HA0.out) ?r16
     case h16=>(intro V _;go_simp;try with_reducible rfl)
     try simp only [Act.put,qX,qY,qZ]
     refine Fst.takeP (ls:=[9,10]) (i:=6) (v:=?v17) rfl (by kernel_rfl) (by kernel_rfl) (by kernel_rfl) (by kernel_rfl) (fun _ _ _ h=>h) (Or.inl ⟨by rfl,?h17⟩) ((HB67.out.block _ hwW).trans HA0.out) ?r17
     case h17=>(intro V _;go_simp;try with_reducible rfl)
     try simp only [Act.put,qX,qY,qZ]
     refine Fst.rest (by kernel_rfl) ?_
     have HR:Hid (v66.heap[A7]? = some BS0/\v66.heap[A8]? = some BR0/\A7≠A8/\W.heap.size<=A7/\W.heap.size<=A8/\TabAt (fun b=>W.heap.size<=b/\b≠A7/\b≠A8) v66 (.slice up un uc) L1/\pl L1 = Nf.F1/\Below W.heap.size W v66):=⟨HF69.out,HF68.out,by omega,by omega,by omega,HT70.out.imp (fun b hb _=>⟨hb.1,by omega,by omega⟩),HP1.out,HB67.out⟩
     clear HT3 HP0 HB2 hw8 HF50 HT51 HB49 HF64 hd8 hw7 HF63 HT65 HB62 HF68 HF69 HT70 HP1 HB67
     refine wpAny_l (l':=#[true,true,true,true,true,true,true,true,true,false,false]) (by kernel_rfl) ?_
     revert HR
     revert v66
     revert A8
     revert A7
     revert L1
     revert oc
     revert op
     revert uc
     revert un
     revert up
     revert ec
     revert en
     revert ep
     revert cp
     revert n
     revert ap
     exact hK0.out
  ·go_simp
   obtain ⟨v71,hv71⟩:∃ v,v = (W.alloc BS0).drew:=⟨_,rfl⟩
   obtain ⟨A7,hA⟩:∃ a,a = W.heap.size:=⟨_,rfl⟩
   have hb:Below W.heap.size W v71:=by rw [hv71];exact bel_drew ((Below.refl _ _).alloc (Nat.le_refl _) _)
   have HF73:Hid (v71.heap[A7]? = some BS0):=by show v71.heap[A7]? = _;rw [hv71,hA];exact heap_alloc_new W _
   have HB72:Hid (Below W.heap.size W v71):=hb
   have hw7:W.heap.size<=A7:=by omega
   rw [← hv71,← hA]
   clear hv71 hA hb
   first | (refine hK _ _ ((HB72.out.block _ hwW).trans HA0.out) ?_;clear hK K) | skip
   try simp only [Act.put,qX,qY,qZ]
   refine Fst.both (late:=fun k=>[9,10].contains k) (i:=0) (j:=8) (by kernel_rfl) rfl rfl (fun K hK=>?_) (fun K hK=>?_)
   ·go_simp
    refine (nnew_any _).mono ?_
    rintro e v74 ⟨ap,n,cp,L0,rfl,ht,hp,hb⟩
    have HB75:Hid (Below W.heap.size W v74):=HB72.out.trans (hb.mono HB72.out.size)
    have HF76:Hid (v74.heap[A7]? = some BS0):=(hb.block _ (qL HF73.out)).trans HF73.out
    have hl7:=(qL HF73.out)
    have hsz:=HB72.out.size
    have HT77:Hid (TabAt (fun b=>W.heap.size<=b/\b≠A7) v74 (.slice ap n cp) L0):=ht.imp (fun b hb _=>by refine ⟨by omega,by omega⟩)
    have HP0:Hid (pl L0 = It.new):=hp
    clear ht hp hb hl7 hsz
    first | (refine hK _ _ ((HB75.out.block _ hwW).trans HA0.out) ?_;clear hK K) | skip
    try simp only [Act.put,qX,qY,qZ]
    refine Fst.both (late:=fun k=>[9,10].contains k) (i:=3) (j:=8) (by kernel_rfl) rfl rfl (fun K hK=>?_) (fun K hK=>?_)
    ·go_simp
     refine (do_step (R:=R1) (T:=Nf.F1) (Q:=[]) (D:=1) (dn:=0) (cl:=5) (c:=Nf.c1) (O:=[]) (vo:=.slice none 0 0) (sp:=none) (sn:=0) (sc:=0) HT77.out At.nil (Sp.okN_sp (by rw [HP0.out];exact Nf.isSp_new)) (by unfold maxLen;decide) (by rw [HP0.out];exact Nf.step1.1) (by rw [HP0.out];exact Nf.step1.2.1) (by rw [HP0.out];exact Nf.step1.2.2.1) (by rw [HP0.out];exact Nf.step1.2.2.2)).mono ?_
     rintro e v78 ⟨ep,en,ec,up,un,uc,op,on,oc,L1,rfl,ht,hp,hq,-,hb⟩
     obtain ⟨_,_,hq2,-,-⟩:=hq.open
     have hon:on = 0:=by injection hq2
     clear hq hq2
     subst hon
     have HB79:Hid (Below W.heap.size W v78):=HB75.out.trans (hb.mono HB75.out.size)
     have HF80:Hid (v78.heap[A7]? = some BS0):=(hb.block _ (qL HF76.out)).trans HF76.out
     have hl7:=(qL HF76.out)
     have hsz:=HB75.out.size
     have HT81:Hid (TabAt (fun b=>W.heap.size<=b/\b≠A7) v78 (.slice up un uc) L1):=ht.imp (fun b hb _=>by refine ⟨by omega,by omega⟩)
     have HP1:Hid (pl L1 = Nf.F1):=hp
     clear ht hp hb hsz hl7
     first | (refine hK _ _ ((HB79.out.block _ hwW).trans HA0.out) ?_;clear hK K) | skip
     try simp only [Act.put,qX,qY,qZ]
     refine Fst.takeP (ls:=[9,10]) (i:=4) (v:=?v18) rfl (by kernel_rfl) (by kernel_rfl) (by kernel_rfl) (by kernel_rfl) (fun _ _ _ h=>h) (Or.inl ⟨by rfl,?h18⟩) ((HB79.out.block _ hwW).trans HA0.out) ?r18
     case h18=>(intro V _;go_simp;try with_reducible rfl)
     try simp only [Act.put,qX,qY,qZ]
     refine Fst.takeP (ls:=[9,10]) (i:=5) (v:=?v19) rfl (by kernel_rfl) (by kernel_rfl) (by kernel_rfl) (by kernel_rfl) (fun _ _ _ h=>h) (Or.inl ⟨by rfl,?h19⟩) ((HB79.out.block _ hwW).trans HA0.out) ?r19
     case h19=>(intro V _;go_simp;try with_reducible rfl)
     try simp only [Act.put,qX,qY,qZ]
     refine Fst.takeP (ls:=[9,10]) (i:=6) (v:=?v20) rfl (by kernel_rfl) (by kernel_rfl) (by kernel_rfl) (by kernel_rfl) (fun _ _ _ h=>h) (Or.inl ⟨by rfl,?h20⟩) ((HB79.out.block _ hwW).trans HA0.out) ?r20
     case h20=>(intro V _;go_simp;try with_reducible rfl)
     try simp only [Act.put,qX,qY,qZ]
     refine Fst.one (late:=fun k=>[9,10].contains k) (i:=8) (by kernel_rfl) rfl (fun K hK=>?_)
     go_simp
     obtain ⟨v82,hv82⟩:∃ v,v = v78.alloc BR0:=⟨_,rfl⟩
     obtain ⟨A8,hA⟩:∃ a,a = v78.heap.size:=⟨_,rfl⟩
     have hb:Below v78.heap.size v78 v82:=by rw [hv82];exact (Below.refl _ _).alloc (Nat.le_refl _) _
     have HF84:Hid (v82.heap[A8]? = some BR0):=by show v82.heap[A8]? = _;rw [hv82,hA];exact heap_alloc_new v78 _
     have HB83:Hid (Below W.heap.size W v82):=HB79.out.trans (hb.mono HB79.out.size)
     have HF85:Hid (v82.heap[A7]? = some BS0):=(hb.block _ (qL HF80.out)).trans HF80.out
     have hd7:A7≠A8:=by have h:=(qL HF80.out);omega
     have hw8:W.heap.size<=A8:=by have h:=HB79.out.size;omega
     have HT86:Hid (TabAt (fun b=>W.heap.size<=b/\b≠A7/\b≠A8) v82 (.slice up un uc) L1):=(HT81.out.imp (fun b hb hl=>by refine ⟨by omega,by omega,by omega⟩)).up hb
     rw [← hv82,← hA]
     clear hv82 hA hb
     first | (refine hK _ _ ((HB83.out.block _ hwW).trans HA0.out) ?_;clear hK K) | skip
     try simp only [Act.put,qX,qY,qZ]
     refine Fst.rest (by kernel_rfl) ?_
     have HR:Hid (v82.heap[A7]? = some BS0/\v82.heap[A8]? = some BR0/\A7≠A8/\W.heap.size<=A7/\W.heap.size<=A8/\TabAt (fun b=>W.heap.size<=b/\b≠A7/\b≠A8) v82 (.slice up un uc) L1/\pl L1 = Nf.F1/\Below W.heap.size W v82):=⟨HF85.out,HF84.out,by omega,by omega,by omega,HT86.out.imp (fun b hb _=>⟨hb.1,by omega,by omega⟩),HP1.out,HB83.out⟩
     clear hw7 HF73 HB72 HF76 HT77 HP0 HB75 HF80 HT81 HP1 HB79 HF85 hd7 hw8 HF84 HT86 HB83
     refine wpAny_l (l':=#[true,true,true,true,true,true,true,true,true,false,false]) (by kernel_rfl) ?_
     revert HR
     revert v82
     revert A8
     revert A7
     revert L1
     revert oc
     revert op
     revert uc
     revert un
     revert up
     revert ec
     revert en
     revert ep
     revert cp
     revert n
     revert ap
     exact hK0.out
    ·go_simp
     obtain ⟨v87,hv87⟩:∃ v,v = v74.alloc BR0:=⟨_,rfl⟩
     obtain ⟨A8,hA⟩:∃ a,a = v74.heap.size:=⟨_,rfl⟩
     have hb:Below v74.heap.size v74 v87:=by rw [hv87];exact (Below.refl _ _).alloc (Nat.le_refl _) _
     have HF89:Hid (v87.heap[A8]? = some BR0):=by show v87.heap[A8]? = _;rw [hv87,hA];exact heap_alloc_new v74 _
     have HB88:Hid (Below W.heap.size W v87):=HB75.out.trans (hb.mono HB75.out.size)
     have HF90:Hid (v87.heap[A7]? = some BS0):=(hb.block _ (qL HF76.out)).trans HF76.out
     have hd7:A7≠A8:=by have h:=(qL HF76.out);omega
     have hw8:W.heap.size<=A8:=by have h:=HB75.out.size;omega
     have HT91:Hid (TabAt (fun b=>W.heap.size<=b/\b≠A7/\b≠A8) v87 (.slice ap n cp) L0):=(HT77.out.imp (fun b hb hl=>by refine ⟨by omega,by omega,by omega⟩)).up hb
     rw [← hv87,← hA]
     clear hv87 hA hb
     first | (refine hK _ _ ((HB88.out.block _ hwW).trans HA0.out) ?_;clear hK K) | skip
     try simp only [Act.put,qX,qY,qZ]
     refine Fst.one (late:=fun k=>[9,10].contains k) (i:=3) (by kernel_rfl) rfl (fun K hK=>?_)
     go_simp
     refine (do_step (R:=R1) (T:=Nf.F1) (Q:=[]) (D:=1) (dn:=0) (cl:=5) (c:=Nf.c1) (O:=[]) (vo:=.slice none 0 0) (sp:=none) (sn:=0) (sc:=0) HT91.out At.nil (Sp.okN_sp (by rw [HP0.out];exact Nf.isSp_new)) (by unfold maxLen;decide) (by rw [HP0.out];exact Nf.step1.1) (by rw [HP0.out];exact Nf.step1.2.1) (by rw [HP0.out];exact Nf.step1.2.2.1) (by rw [HP0.out];exact Nf.step1.2.2.2)).mono ?_
     rintro e v92 ⟨ep,en,ec,up,un,uc,op,on,oc,L1,rfl,ht,hp,hq,-,hb⟩
     obtain ⟨_,_,hq2,-,-⟩:=hq.open
     have hon:on = 0:=by injection hq2
     clear hq hq2
     subst hon
     have HB93:Hid (Below W.heap.size W v92):=HB88.out.trans (hb.mono HB88.out.size)
     have HF94:Hid (v92.heap[A7]? = some BS0):=(hb.block _ (qL HF90.out)).trans HF90.out
     have HF95:Hid (v92.heap[A8]? = some BR0):=(hb.block _ (qL HF89.out)).trans HF89.out
     have hl7:=(qL HF90.out)
     have hl8:=(qL HF89.out)
     have hsz:=HB88.out.size
     have HT96:Hid (TabAt (fun b=>W.heap.size<=b/\b≠A7/\b≠A8) v92 (.slice up un uc) L1):=ht.imp (fun b hb _=>by refine ⟨by omega,by omega,by omega⟩)
     have HP1:Hid (pl L1 = Nf.F1):=hp
     clear ht hp hb hsz hl7 hl8
     first | (refine hK _ _ ((HB93.out.block _ hwW).trans HA0.out) ?_;clear hK K) | skip
     try simp only [Act.put,qX,qY,qZ]
     refine Fst.takeP (ls:=[9,10]) (i:=4) (v:=?v21) rfl (by kernel_rfl) (by kernel_rfl) (by kernel_rfl) (by kernel_rfl) (fun _ _ _ h=>h) (Or.inl ⟨by rfl,?h21⟩) ((HB93.out.block _ hwW).trans HA0.out) ?r21
     case h21=>(intro V _;go_simp;try with_reducible rfl)
     try simp only [Act.put,qX,qY,qZ]
     refine Fst.takeP (ls:=[9,10]) (i:=5) (v:=?v22) rfl (by kernel_rfl) (by kernel_rfl) (by kernel_rfl) (by kernel_rfl) (fun _ _ _ h=>h) (Or.inl ⟨by rfl,?h22⟩) ((HB93.out.block _ hwW).trans HA0.out) ?r22
     case h22=>(intro V _;go_simp;try with_reducible rfl)
     try simp only [Act.put,qX,qY,qZ]
     refine Fst.takeP (ls:=[9,10]) (i:=6) (v:=?v23) rfl (by kernel_rfl) (by kernel_rfl) (by kernel_rfl) (by kernel_rfl) (fun _ _ _ h=>h) (Or.inl ⟨by rfl,?h23⟩) ((HB93.out.block _ hwW).trans HA0.out) ?r23
     case h23=>(intro V _;go_simp;try with_reducible rfl)
     try simp only [Act.put,qX,qY,qZ]
     refine Fst.rest (by kernel_rfl) ?_
     have HR:Hid (v92.heap[A7]? = some BS0/\v92.heap[A8]? = some BR0/\A7≠A8/\W.heap.size<=A7/\W.heap.size<=A8/\TabAt (fun b=>W.heap.size<=b/\b≠A7/\b≠A8) v92 (.slice up un uc) L1/\pl L1 = Nf.F1/\Below W.heap.size W v92):=⟨HF94.out,HF95.out,by omega,by omega,by omega,HT96.out.imp (fun b hb _=>⟨hb.1,by omega,by omega⟩),HP1.out,HB93.out⟩
     clear hw7 HF73 HB72 HF76 HT77 HP0 HB75 HF90 hd7 hw8 HF89 HT91 HB88 HF94 HF95 HT96 HP1 HB93
     refine wpAny_l (l':=#[true,true,true,true,true,true,true,true,true,false,false]) (by kernel_rfl) ?_
     revert HR
     revert v92
     revert A8
     revert A7
     revert L1
     revert oc
     revert op
     revert uc
     revert un
     revert up
     revert ec
     revert en
     revert ep
     revert cp
     revert n
     revert ap
     exact hK0.out
   ·go_simp
    obtain ⟨v97,hv97⟩:∃ v,v = v71.alloc BR0:=⟨_,rfl⟩
    obtain ⟨A8,hA⟩:∃ a,a = v71.heap.size:=⟨_,rfl⟩
    have hb:Below v71.heap.size v71 v97:=by rw [hv97];exact (Below.refl _ _).alloc (Nat.le_refl _) _
    have HF99:Hid (v97.heap[A8]? = some BR0):=by show v97.heap[A8]? = _;rw [hv97,hA];exact heap_alloc_new v71 _
    have HB98:Hid (Below W.heap.size W v97):=HB72.out.trans (hb.mono HB72.out.size)
    have HF100:Hid (v97.heap[A7]? = some BS0):=(hb.block _ (qL HF73.out)).trans HF73.out
    have hd7:A7≠A8:=by have h:=(qL HF73.out);omega
    have hw8:W.heap.size<=A8:=by have h:=HB72.out.size;omega
    rw [← hv97,← hA]
    clear hv97 hA hb
    first | (refine hK _ _ ((HB98.out.block _ hwW).trans HA0.out) ?_;clear hK K) | skip
    try simp only [Act.put,qX,qY,qZ]
    refine Fst.one (late:=fun k=>[9,10].contains k) (i:=0) (by kernel_rfl) rfl (fun K hK=>?_)
    go_simp
    refine (nnew_any _).mono ?_
    rintro e v101 ⟨ap,n,cp,L0,rfl,ht,hp,hb⟩
    have HB102:Hid (Below W.heap.size W v101):=HB98.out.trans (hb.mono HB98.out.size)
    have HF103:Hid (v101.heap[A7]? = some BS0):=(hb.block _ (qL HF100.out)).trans HF100.out
    have HF104:Hid (v101.heap[A8]? = some BR0):=(hb.block _ (qL HF99.out)).trans HF99.out
    have hl7:=(qL HF100.out)
    have hl8:=(qL HF99.out)
    have hsz:=HB98.out.size
    have HT105:Hid (TabAt (fun b=>W.heap.size<=b/\b≠A7/\b≠A8) v101 (.slice ap n cp) L0):=ht.imp (fun b hb _=>by refine ⟨by omega,by omega,by omega⟩)
    have HP0:Hid (pl L0 = It.new):=hp
    clear ht hp hb hl7 hl8 hsz
    first | (refine hK _ _ ((HB102.out.block _ hwW).trans HA0.out) ?_;clear hK K) | skip
    try simp only [Act.put,qX,qY,qZ]
    refine Fst.one (late:=fun k=>[9,10].contains k) (i:=3) (by kernel_rfl) rfl (fun K hK=>?_)
    go_simp
    refine (do_step (R:=R1) (T:=Nf.F1) (Q:=[]) (D:=1) (dn:=0) (cl:=5) (c:=Nf.c1) (O:=[]) (vo:=.slice none 0 0) (sp:=none) (sn:=0) (sc:=0) HT105.out At.nil (Sp.okN_sp (by rw [HP0.out];exact Nf.isSp_new)) (by unfold maxLen;decide) (by rw [HP0.out];exact Nf.step1.1) (by rw [HP0.out];exact Nf.step1.2.1) (by rw [HP0.out];exact Nf.step1.2.2.1) (by rw [HP0.out];exact Nf.step1.2.2.2)).mono ?_
    rintro e v106 ⟨ep,en,ec,up,un,uc,op,on,oc,L1,rfl,ht,hp,hq,-,hb⟩
    obtain ⟨_,_,hq2,-,-⟩:=hq.open
    have hon:on = 0:=by injection hq2
    clear hq hq2
    subst hon
    have HB107:Hid (Below W.heap.size W v106):=HB102.out.trans (hb.mono HB102.out.size)
    have HF108:Hid (v106.heap[A7]? = some BS0):=(hb.block _ (qL HF103.out)).trans HF103.out
    have HF109:Hid (v106.heap[A8]? = some BR0):=(hb.block _ (qL HF104.out)).trans HF104.out
    have hl7:=(qL HF103.out)
    have hl8:=(qL HF104.out)
    have hsz:=HB102.out.size
    have HT110:Hid (TabAt (fun b=>W.heap.size<=b/\b≠A7/\b≠A8) v106 (.slice up un uc) L1):=ht.imp (fun b hb _=>by refine ⟨by omega,by omega,by omega⟩)
    have HP1:Hid (pl L1 = Nf.F1):=hp
    clear ht hp hb hsz hl7 hl8
    first | (refine hK _ _ ((HB107.out.block _ hwW).trans HA0.out) ?_;clear hK K) | skip
    try simp only [Act.put,qX,qY,qZ]
    refine Fst.takeP (ls:=[9,10]) (i:=4) (v:=?v24) rfl (by kernel_rfl) (by kernel_rfl) (by kernel_rfl) (by kernel_rfl) (fun _ _ _ h=>h) (Or.inl ⟨by rfl,?h24⟩) ((HB107.out.block _ hwW).trans HA0.out) ?r24
    case h24=>(intro V _;go_simp;try with_reducible rfl)
    try simp only [Act.put,qX,qY,qZ]
    refine Fst.takeP (ls:=[9,10]) (i:=5) (v:=?v25) rfl (by kernel_rfl) (by kernel_rfl) (by kernel_rfl) (by kernel_rfl) (fun _ _ _ h=>h) (Or.inl ⟨by rfl,?h25⟩) ((HB107.out.block _ hwW).trans HA0.out) ?r25
    case h25=>(intro V _;go_simp;try with_reducible rfl)
    try simp only [Act.put,qX,qY,qZ]
    refine Fst.takeP (ls:=[9,10]) (i:=6) (v:=?v26) rfl (by kernel_rfl) (by kernel_rfl) (by kernel_rfl) (by kernel_rfl) (fun _ _ _ h=>h) (Or.inl ⟨by rfl,?h26⟩) ((HB107.out.block _ hwW).trans HA0.out) ?r26
    case h26=>(intro V _;go_simp;try with_reducible rfl)
    try simp only [Act.put,qX,qY,qZ]
    refine Fst.rest (by kernel_rfl) ?_
    have HR:Hid (v106.heap[A7]? = some BS0/\v106.heap[A8]? = some BR0/\A7≠A8/\W.heap.size<=A7/\W.heap.size<=A8/\TabAt (fun b=>W.heap.size<=b/\b≠A7/\b≠A8) v106 (.slice up un uc) L1/\pl L1 = Nf.F1/\Below W.heap.size W v106):=⟨HF108.out,HF109.out,by omega,by omega,by omega,HT110.out.imp (fun b hb _=>⟨hb.1,by omega,by omega⟩),HP1.out,HB107.out⟩
    clear hw7 HF73 HB72 HF100 hd7 hw8 HF99 HB98 HF103 HF104 HT105 HP0 HB102 HF108 HF109 HT110 HP1 HB107
    refine wpAny_l (l':=#[true,true,true,true,true,true,true,true,true,false,false]) (by kernel_rfl) ?_
    revert HR
    revert v106
    revert A8
    revert A7
    revert L1
    revert oc
    revert op
    revert uc
    revert un
    revert up
    revert ec
    revert en
    revert ep
    revert cp
    revert n
    revert ap
    exact hK0.out
  ·go_simp
   obtain ⟨v111,hv111⟩:∃ v,v = (W.alloc BR0).drew:=⟨_,rfl⟩
   obtain ⟨A8,hA⟩:∃ a,a = W.heap.size:=⟨_,rfl⟩
   have hb:Below W.heap.size W v111:=by rw [hv111];exact bel_drew ((Below.refl _ _).alloc (Nat.le_refl _) _)
   have HF113:Hid (v111.heap[A8]? = some BR0):=by show v111.heap[A8]? = _;rw [hv111,hA];exact heap_alloc_new W _
   have HB112:Hid (Below W.heap.size W v111):=hb
   have hw8:W.heap.size<=A8:=by omega
   rw [← hv111,← hA]
   clear hv111 hA hb
   first | (refine hK _ _ ((HB112.out.block _ hwW).trans HA0.out) ?_;clear hK K) | skip
   try simp only [Act.put,qX,qY,qZ]
   refine Fst.both (late:=fun k=>[9,10].contains k) (i:=0) (j:=7) (by kernel_rfl) rfl rfl (fun K hK=>?_) (fun K hK=>?_)
   ·go_simp
    refine (nnew_any _).mono ?_
    rintro e v114 ⟨ap,n,cp,L0,rfl,ht,hp,hb⟩
    have HB115:Hid (Below W.heap.size W v114):=HB112.out.trans (hb.mono HB112.out.size)
    have HF116:Hid (v114.heap[A8]? = some BR0):=(hb.block _ (qL HF113.out)).trans HF113.out
    have hl8:=(qL HF113.out)
    have hsz:=HB112.out.size
    have HT117:Hid (TabAt (fun b=>W.heap.size<=b/\b≠A8) v114 (.slice ap n cp) L0):=ht.imp (fun b hb _=>by refine ⟨by omega,by omega⟩)
    have HP0:Hid (pl L0 = It.new):=hp
    clear ht hp hb hl8 hsz
    first | (refine hK _ _ ((HB115.out.block _ hwW).trans HA0.out) ?_;clear hK K) | skip
    try simp only [Act.put,qX,qY,qZ]
    refine Fst.both (late:=fun k=>[9,10].contains k) (i:=3) (j:=7) (by kernel_rfl) rfl rfl (fun K hK=>?_) (fun K hK=>?_)
    ·go_simp
     refine (do_step (R:=R1) (T:=Nf.F1) (Q:=[]) (D:=1) (dn:=0) (cl:=5) (c:=Nf.c1) (O:=[]) (vo:=.slice none 0 0) (sp:=none) (sn:=0) (sc:=0) HT117.out At.nil (Sp.okN_sp (by rw [HP0.out];exact Nf.isSp_new)) (by unfold maxLen;decide) (by rw [HP0.out];exact Nf.step1.1) (by rw [HP0.out];exact Nf.step1.2.1) (by rw [HP0.out];exact Nf.step1.2.2.1) (by rw [HP0.out];exact Nf.step1.2.2.2)).mono ?_
     rintro e v118 ⟨ep,en,ec,up,un,uc,op,on,oc,L1,rfl,ht,hp,hq,-,hb⟩
     obtain ⟨_,_,hq2,-,-⟩:=hq.open
     have hon:on = 0:=by injection hq2
     clear hq hq2
     subst hon
     have HB119:Hid (Below W.heap.size W v118):=HB115.out.trans (hb.mono HB115.out.size)
     have HF120:Hid (v118.heap[A8]? = some BR0):=(hb.block _ (qL HF116.out)).trans HF116.out
     have hl8:=(qL HF116.out)
     have hsz:=HB115.out.size
     have HT121:Hid (TabAt (fun b=>W.heap.size<=b/\b≠A8) v118 (.slice up un uc) L1):=ht.imp (fun b hb _=>by refine ⟨by omega,by omega⟩)
     have HP1:Hid (pl L1 = Nf.F1):=hp
     clear ht hp hb hsz hl8
     first | (refine hK _ _ ((HB119.out.block _ hwW).trans HA0.out) ?_;clear hK K) | skip
     try simp only [Act.put,qX,qY,qZ]
     refine Fst.takeP (ls:=[9,10]) (i:=4) (v:=?v27) rfl (by kernel_rfl) (by kernel_rfl) (by kernel_rfl) (by kernel_rfl) (fun _ _ _ h=>h) (Or.inl ⟨by rfl,?h27⟩) ((HB119.out.block _ hwW).trans HA0.out) ?r27
     case h27=>(intro V _;go_simp;try with_reducible rfl)
     try simp only [Act.put,qX,qY,qZ]
     refine Fst.takeP (ls:=[9,10]) (i:=5) (v:=?v28) rfl (by kernel_rfl) (by kernel_rfl) (by kernel_rfl) (by kernel_rfl) (fun _ _ _ h=>h) (Or.inl ⟨by rfl,?h28⟩) ((HB119.out.block _ hwW).trans HA0.out) ?r28
     case h28=>(intro V _;go_simp;try with_reducible rfl)
     try simp only [Act.put,qX,qY,qZ]
     refine Fst.takeP (ls:=[9,10]) (i:=6) (v:=?v29) rfl (by kernel_rfl) (by kernel_rfl) (by kernel_rfl) (by kernel_rfl) (fun _ _ _ h=>h) (Or.inl ⟨by rfl,?h29⟩) ((HB119.out.block _ hwW).trans HA0.out) ?r29
     case h29=>(intro V _;go_simp;try with_reducible rfl)
     try simp only [Act.put,qX,qY,qZ]
     refine Fst.one (late:=fun k=>[9,10].contains k) (i:=7) (by kernel_rfl) rfl (fun K hK=>?_)
     go_simp
     obtain ⟨v122,hv122⟩:∃ v,v = v118.alloc BS0:=⟨_,rfl⟩
     obtain ⟨A7,hA⟩:∃ a,a = v118.heap.size:=⟨_,rfl⟩
     have hb:Below v118.heap.size v118 v122:=by rw [hv122];exact (Below.refl _ _).alloc (Nat.le_refl _) _
     have HF124:Hid (v122.heap[A7]? = some BS0):=by show v122.heap[A7]? = _;rw [hv122,hA];exact heap_alloc_new v118 _
     have HB123:Hid (Below W.heap.size W v122):=HB119.out.trans (hb.mono HB119.out.size)
     have HF125:Hid (v122.heap[A8]? = some BR0):=(hb.block _ (qL HF120.out)).trans HF120.out
     have hd8:A8≠A7:=by have h:=(qL HF120.out);omega
     have hw7:W.heap.size<=A7:=by have h:=HB119.out.size;omega
     have HT126:Hid (TabAt (fun b=>W.heap.size<=b/\b≠A7/\b≠A8) v122 (.slice up un uc) L1):=(HT121.out.imp (fun b hb hl=>by refine ⟨by omega,by omega,by omega⟩)).up hb
     rw [← hv122,← hA]
     clear hv122 hA hb
     first | (refine hK _ _ ((HB123.out.block _ hwW).trans HA0.out) ?_;clear hK K) | skip
     try simp only [Act.put,qX,qY,qZ]
     refine Fst.rest (by kernel_rfl) ?_
     have HR:Hid (v122.heap[A7]? = some BS0/\v122.heap[A8]? = some BR0/\A7≠A8/\W.heap.size<=A7/\W.heap.size<=A8/\TabAt (fun b=>W.heap.size<=b/\b≠A7/\b≠A8) v122 (.slice up un uc) L1/\pl L1 = Nf.F1/\Below W.heap.size W v122):=⟨HF124.out,HF125.out,by omega,by omega,by omega,HT126.out.imp (fun b hb _=>⟨hb.1,by omega,by omega⟩),HP1.out,HB123.out⟩
     clear hw8 HF113 HB112 HF116 HT117 HP0 HB115 HF120 HT121 HP1 HB119 HF125 hd8 hw7 HF124 HT126 HB123
     refine wpAny_l (l':=#[true,true,true,true,true,true,true,true,true,false,false]) (by kernel_rfl) ?_
     revert HR
     revert v122
     revert A8
     revert A7
     revert L1
     revert oc
     revert op
     revert uc
     revert un
     revert up
     revert ec
     revert en
     revert ep
     revert cp
     revert n
     revert ap
     exact hK0.out
    ·go_simp
     obtain ⟨v127,hv127⟩:∃ v,v = v114.alloc BS0:=⟨_,rfl⟩
     obtain ⟨A7,hA⟩:∃ a,a = v114.heap.size:=⟨_,rfl⟩
     have hb:Below v114.heap.size v114 v127:=by rw [hv127];exact (Below.refl _ _).alloc (Nat.le_refl _) _
     have HF129:Hid (v127.heap[A7]? = some BS0):=by show v127.heap[A7]? = _;rw [hv127,hA];exact heap_alloc_new v114 _
     have HB128:Hid (Below W.heap.size W v127):=HB115.out.trans (hb.mono HB115.out.size)
     have HF130:Hid (v127.heap[A8]? = some BR0):=(hb.block _ (qL HF116.out)).trans HF116.out
     have hd8:A8≠A7:=by have h:=(qL HF116.out);omega
     have hw7:W.heap.size<=A7:=by have h:=HB115.out.size;omega
     have HT131:Hid (TabAt (fun b=>W.heap.size<=b/\b≠A7/\b≠A8) v127 (.slice ap n cp) L0):=(HT117.out.imp (fun b hb hl=>by refine ⟨by omega,by omega,by omega⟩)).up hb
     rw [← hv127,← hA]
     clear hv127 hA hb
     first | (refine hK _ _ ((HB128.out.block _ hwW).trans HA0.out) ?_;clear hK K) | skip
     try simp only [Act.put,qX,qY,qZ]
     refine Fst.one (late:=fun k=>[9,10].contains k) (i:=3) (by kernel_rfl) rfl (fun K hK=>?_)
     go_simp
     refine (do_step (R:=R1) (T:=Nf.F1) (Q:=[]) (D:=1) (dn:=0) (cl:=5) (c:=Nf.c1) (O:=[]) (vo:=.slice none 0 0) (sp:=none) (sn:=0) (sc:=0) HT131.out At.nil (Sp.okN_sp (by rw [HP0.out];exact Nf.isSp_new)) (by unfold maxLen;decide) (by rw [HP0.out];exact Nf.step1.1) (by rw [HP0.out];exact Nf.step1.2.1) (by rw [HP0.out];exact Nf.step1.2.2.1) (by rw [HP0.out];exact Nf.step1.2.2.2)).mono ?_
     rintro e v132 ⟨ep,en,ec,up,un,uc,op,on,oc,L1,rfl,ht,hp,hq,-,hb⟩
     obtain ⟨_,_,hq2,-,-⟩:=hq.open
     have hon:on = 0:=by injection hq2
     clear hq hq2
     subst hon
     have HB133:Hid (Below W.heap.size W v132):=HB128.out.trans (hb.mono HB128.out.size)
     have HF134:Hid (v132.heap[A8]? = some BR0):=(hb.block _ (qL HF130.out)).trans HF130.out
     have HF135:Hid (v132.heap[A7]? = some BS0):=(hb.block _ (qL HF129.out)).trans HF129.out
     have hl8:=(qL HF130.out)
     have hl7:=(qL HF129.out)
     have hsz:=HB128.out.size
     have HT136:Hid (TabAt (fun b=>W.heap.size<=b/\b≠A7/\b≠A8) v132 (.slice up un uc) L1):=ht.imp (fun b hb _=>by refine ⟨by omega,by omega,by omega⟩)
     have HP1:Hid (pl L1 = Nf.F1):=hp
     clear ht hp hb hsz hl8 hl7
     first | (refine hK _ _ ((HB133.out.block _ hwW).trans HA0.out) ?_;clear hK K) | skip
     try simp only [Act.put,qX,qY,qZ]
     refine Fst.takeP (ls:=[9,10]) (i:=4) (v:=?v30) rfl (by kernel_rfl) (by kernel_rfl) (by kernel_rfl) (by kernel_rfl) (fun _ _ _ h=>h) (Or.inl ⟨by rfl,?h30⟩) ((HB133.out.block _ hwW).trans HA0.out) ?r30
     case h30=>(intro V _;go_simp;try with_reducible rfl)
     try simp only [Act.put,qX,qY,qZ]
     refine Fst.takeP (ls:=[9,10]) (i:=5) (v:=?v31) rfl (by kernel_rfl) (by kernel_rfl) (by kernel_rfl) (by kernel_rfl) (fun _ _ _ h=>h) (Or.inl ⟨by rfl,?h31⟩) ((HB133.out.block _ hwW).trans HA0.out) ?r31
     case h31=>(intro V _;go_simp;try with_reducible rfl)
     try simp only [Act.put,qX,qY,qZ]
     refine Fst.takeP (ls:=[9,10]) (i:=6) (v:=?v32) rfl (by kernel_rfl) (by kernel_rfl) (by kernel_rfl) (by kernel_rfl) (fun _ _ _ h=>h) (Or.inl ⟨by rfl,?h32⟩) ((HB133.out.block _ hwW).trans HA0.out) ?r32
     case h32=>(intro V _;go_simp;try with_reducible rfl)
     try simp only [Act.put,qX,qY,qZ]
     refine Fst.rest (by kernel_rfl) ?_
     have HR:Hid (v132.heap[A7]? = some BS0/\v132.heap[A8]? = some BR0/\A7≠A8/\W.heap.size<=A7/\W.heap.size<=A8/\TabAt (fun b=>W.heap.size<=b/\b≠A7/\b≠A8) v132 (.slice up un uc) L1/\pl L1 = Nf.F1/\Below W.heap.size W v132):=⟨HF135.out,HF134.out,by omega,by omega,by omega,HT136.out.imp (fun b hb _=>⟨hb.1,by omega,by omega⟩),HP1.out,HB133.out⟩
     clear hw8 HF113 HB112 HF116 HT117 HP0 HB115 HF130 hd8 hw7 HF129 HT131 HB128 HF134 HF135 HT136 HP1 HB133
     refine wpAny_l (l':=#[true,true,true,true,true,true,true,true,true,false,false]) (by kernel_rfl) ?_
     revert HR
     revert v132
     revert A8
     revert A7
     revert L1
     revert oc
     revert op
     revert uc
     revert un
     revert up
     revert ec
     revert en
     revert ep
     revert cp
     revert n
     revert ap
     exact hK0.out
   ·go_simp
    obtain ⟨v137,hv137⟩:∃ v,v = v111.alloc BS0:=⟨_,rfl⟩
    obtain ⟨A7,hA⟩:∃ a,a = v111.heap.size:=⟨_,rfl⟩
    have hb:Below v111.heap.size v111 v137:=by rw [hv137];exact (Below.refl _ _).alloc (Nat.le_refl _) _
    have HF139:Hid (v137.heap[A7]? = some BS0):=by show v137.heap[A7]? = _;rw [hv137,hA];exact heap_alloc_new v111 _
    have HB138:Hid (Below W.heap.size W v137):=HB112.out.trans (hb.mono HB112.out.size)
    have HF140:Hid (v137.heap[A8]? = some BR0):=(hb.block _ (qL HF113.out)).trans HF113.out
    have hd8:A8≠A7:=by have h:=(qL HF113.out);omega
    have hw7:W.heap.size<=A7:=by have h:=HB112.out.size;omega
    rw [← hv137,← hA]
    clear hv137 hA hb
    first | (refine hK _ _ ((HB138.out.block _ hwW).trans HA0.out) ?_;clear hK K) | skip
    try simp only [Act.put,qX,qY,qZ]
    refine Fst.one (late:=fun k=>[9,10].contains k) (i:=0) (by kernel_rfl) rfl (fun K hK=>?_)
    go_simp
    refine (nnew_any _).mono ?_
    rintro e v141 ⟨ap,n,cp,L0,rfl,ht,hp,hb⟩
    have HB142:Hid (Below W.heap.size W v141):=HB138.out.trans (hb.mono HB138.out.size)
    have HF143:Hid (v141.heap[A8]? = some BR0):=(hb.block _ (qL HF140.out)).trans HF140.out
    have HF144:Hid (v141.heap[A7]? = some BS0):=(hb.block _ (qL HF139.out)).trans HF139.out
    have hl8:=(qL HF140.out)
    have hl7:=(qL HF139.out)
    have hsz:=HB138.out.size
    have HT145:Hid (TabAt (fun b=>W.heap.size<=b/\b≠A7/\b≠A8) v141 (.slice ap n cp) L0):=ht.imp (fun b hb _=>by refine ⟨by omega,by omega,by omega⟩)
    have HP0:Hid (pl L0 = It.new):=hp
    clear ht hp hb hl8 hl7 hsz
    first | (refine hK _ _ ((HB142.out.block _ hwW).trans HA0.out) ?_;clear hK K) | skip
    try simp only [Act.put,qX,qY,qZ]
    refine Fst.one (late:=fun k=>[9,10].contains k) (i:=3) (by kernel_rfl) rfl (fun K hK=>?_)
    go_simp
    refine (do_step (R:=R1) (T:=Nf.F1) (Q:=[]) (D:=1) (dn:=0) (cl:=5) (c:=Nf.c1) (O:=[]) (vo:=.slice none 0 0) (sp:=none) (sn:=0) (sc:=0) HT145.out At.nil (Sp.okN_sp (by rw [HP0.out];exact Nf.isSp_new)) (by unfold maxLen;decide) (by rw [HP0.out];exact Nf.step1.1) (by rw [HP0.out];exact Nf.step1.2.1) (by rw [HP0.out];exact Nf.step1.2.2.1) (by rw [HP0.out];exact Nf.step1.2.2.2)).mono ?_
    rintro e v146 ⟨ep,en,ec,up,un,uc,op,on,oc,L1,rfl,ht,hp,hq,-,hb⟩
    obtain ⟨_,_,hq2,-,-⟩:=hq.open
    have hon:on = 0:=by injection hq2
    clear hq hq2
    subst hon
    have HB147:Hid (Below W.heap.size W v146):=HB142.out.trans (hb.mono HB142.out.size)
    have HF148:Hid (v146.heap[A8]? = some BR0):=(hb.block _ (qL HF143.out)).trans HF143.out
    have HF149:Hid (v146.heap[A7]? = some BS0):=(hb.block _ (qL HF144.out)).trans HF144.out
    have hl8:=(qL HF143.out)
    have hl7:=(qL HF144.out)
    have hsz:=HB142.out.size
    have HT150:Hid (TabAt (fun b=>W.heap.size<=b/\b≠A7/\b≠A8) v146 (.slice up un uc) L1):=ht.imp (fun b hb _=>by refine ⟨by omega,by omega,by omega⟩)
    have HP1:Hid (pl L1 = Nf.F1):=hp
    clear ht hp hb hsz hl8 hl7
    first | (refine hK _ _ ((HB147.out.block _ hwW).trans HA0.out) ?_;clear hK K) | skip
    try simp only [Act.put,qX,qY,qZ]
    refine Fst.takeP (ls:=[9,10]) (i:=4) (v:=?v33) rfl (by kernel_rfl) (by kernel_rfl) (by kernel_rfl) (by kernel_rfl) (fun _ _ _ h=>h) (Or.inl ⟨by rfl,?h33⟩) ((HB147.out.block _ hwW).trans HA0.out) ?r33
    case h33=>(intro V _;go_simp;try with_reducible rfl)
    try simp only [Act.put,qX,qY,qZ]
    refine Fst.takeP (ls:=[9,10]) (i:=5) (v:=?v34) rfl (by kernel_rfl) (by kernel_rfl) (by kernel_rfl) (by kernel_rfl) (fun _ _ _ h=>h) (Or.inl ⟨by rfl,?h34⟩) ((HB147.out.block _ hwW).trans HA0.out) ?r34
    case h34=>(intro V _;go_simp;try with_reducible rfl)
    try simp only [Act.put,qX,qY,qZ]
    refine Fst.takeP (ls:=[9,10]) (i:=6) (v:=?v35) rfl (by kernel_rfl) (by kernel_rfl) (by kernel_rfl) (by kernel_rfl) (fun _ _ _ h=>h) (Or.inl ⟨by rfl,?h35⟩) ((HB147.out.block _ hwW).trans HA0.out) ?r35
    case h35=>(intro V _;go_simp;try with_reducible rfl)
    try simp only [Act.put,qX,qY,qZ]
    refine Fst.rest (by kernel_rfl) ?_
    have HR:Hid (v146.heap[A7]? = some BS0/\v146.heap[A8]? = some BR0/\A7≠A8/\W.heap.size<=A7/\W.heap.size<=A8/\TabAt (fun b=>W.heap.size<=b/\b≠A7/\b≠A8) v146 (.slice up un uc) L1/\pl L1 = Nf.F1/\Below W.heap.size W v146):=⟨HF149.out,HF148.out,by omega,by omega,by omega,HT150.out.imp (fun b hb _=>⟨hb.1,by omega,by omega⟩),HP1.out,HB147.out⟩
    clear hw8 HF113 HB112 HF140 hd8 hw7 HF139 HB138 HF143 HF144 HT145 HP0 HB142 HF148 HF149 HT150 HP1 HB147
    refine wpAny_l (l':=#[true,true,true,true,true,true,true,true,true,false,false]) (by kernel_rfl) ?_
    revert HR
    revert v146
    revert A8
    revert A7
    revert L1
    revert oc
    revert op
    revert uc
    revert un
    revert up
    revert ec
    revert en
    revert ep
    revert cp
    revert n
    revert ap
    exact hK0.out
 intro ap n cp ep en ec up un uc op oc L1 A7 A8 U HR
 have hr:=HR.out
 obtain ⟨hA7,hA8,h78,hw7,hw8,ht,hp,hb⟩:=hr
 have HT2:Hid (TabAt (fun b=>W.heap.size<=b/\b≠A7/\b≠A8) U (.slice up un uc) L1):=ht
 have HP2:Hid (pl L1 = Nf.F1):=hp
 have HB2:Hid (Below W.heap.size W U):=hb
 have H72:Hid (U.heap[A7]? = some BS0):=hA7
 have H82:Hid (U.heap[A8]? = some BR0):=hA8
 obtain ⟨f0,f1,f2,f3⟩:=st_of hA7
 have ff:=fr_at hA7
 obtain ⟨g0,g1,g2,g3,g4,g5,g6,g7,g8,g9⟩:=rp_of hA8
 have gg:=fr_at hA8
 clear HR hA7 hA8 ht hp hb
 refine wpAny_ready (rs:=[9]) (by kernel_rfl) (by simp) ?_
 refine AllReady.cons rfl (fun K hK=>?_) AllReady.nil
 go_simp
 (try go_wp2_with fail)
 first | (refine hK _ _ ?_;clear hK K) | skip
 try simp only [Act.put,qX,qY,qZ]
 refine wpAny_ready (rs:=[10]) (by kernel_rfl) (by simp) ?_
 refine AllReady.cons rfl (fun K hK=>?_) AllReady.nil
 go_simp
 (try go_wp2_with fail)
 first | (refine hK _ _ ?_;clear hK K) | skip
 try simp only [Act.put,qX,qY,qZ]
 refine wpAny_done (by kernel_rfl) ?_ _
 obtain ⟨U2,hU2⟩:∃ U2,U2 = ((((((((((((((U.setCell ⟨A7,0,none⟩ (.slice up un uc)).setCell ⟨A7,1,none⟩ (.slice op 0 oc)).setCell ⟨A7,2,none⟩ (.slice none 0 0)).setCell ⟨A7,3,none⟩ (.int .i64 1)).setCell ⟨A8,0,none⟩ (.int .i64 0)).setCell ⟨A8,1,none⟩ (.int .i64 1)).setCell ⟨A8,2,none⟩ (.int .i64 1)).setCell ⟨A8,3,none⟩ (.int .i64 1)).setCell ⟨A8,4,none⟩ (.int .i64 1)).setCell ⟨A8,5,none⟩ (.int .i64 0)).setCell ⟨A8,6,none⟩ (.int .i64 1)).setCell ⟨A8,7,none⟩ (.string ⟨#[]⟩)).setCell ⟨A8,8,none⟩ (.slice ep en ec)).setCell ⟨A8,9,none⟩ (.int .i64 0)):=⟨_,rfl⟩
 rw [← hU2]
 have hU3:U2 = (U.setCells A7 0 (cS (.slice up un uc) (.slice op 0 oc) (.slice none 0 0) 1)).setCells A8 0 (cR R1 (.slice ep en ec)):=hU2
 have K7:Hid (U2.heap[A7]? = some (BSt (.slice up un uc) (.slice op 0 oc) (.slice none 0 0) 1)):=by show _ = _;rw [hU3];exact (setCells_off _ _ _ h78).trans (setCells_at (cS (.slice up un uc) (.slice op 0 oc) (.slice none 0 0) 1) H72.out rfl)
 have K8:Hid (U2.heap[A8]? = some (BRl R1 (.slice ep en ec))):=by show _ = _;rw [hU3];exact setCells_at (cR R1 (.slice ep en ec)) ((setCells_off _ _ _ (Ne.symm h78)).trans H82.out) rfl
 have KT:Hid (TabAt (fun b=>W.heap.size<=b/\b≠A7/\b≠A8) U2 (.slice up un uc) L1):=by show TabAt _ _ _ _;rw [hU3];exact setCells_tab (fun h=>h.2.2 rfl) _ _ _ (setCells_tab (fun h=>h.2.1 rfl) _ _ _ HT2.out)
 have KB:Hid (Below W.heap.size W U2):=by show Below _ _ _;rw [hU3];exact setCells_below hw8 _ _ _ (setCells_below hw7 _ _ _ HB2.out)
 have KR:Hid (U2.heap[w.heap.size]? = some (BH2 0 1)):=(KB.out.block _ hwW).trans HA0.out
 clear hU2 hU3 f0 f1 f2 f3 ff g0 g1 g2 g3 g4 g5 g6 g7 g8 g9 gg HT2 HB2 H72 H82
 obtain ⟨t0,t1,t2,t3⟩:=st_of K7.out
 have tf:=fr_at K7.out
 obtain ⟨g0,g1,g2,g3,g4,g5,g6,g7,g8,g9⟩:=rp_of K8.out
 have k0:=cell_at KR.out 0
 have k1:=cell_at KR.out 1
 simp at k0 k1
 go_wp2_with fail
 refine (do_step (S:=fun b=>W.heap.size<=b/\b≠A7/\b≠A8) (R:=(⟨0,0,0,0,0,0,0,⟨#[]⟩,[],0⟩:Nf.Rpl)) (T:=Nf.F1) (Q:=Nf.O1) (D:=2) (dn:=1) (cl:=5) (c:=Nf.c2) (O:=[]) KT.out (.inl ⟨op,oc,rfl,rfl⟩) (Sp.okN_sp (by rw [HP2.out];exact Nf.isSp_F1)) (by unfold maxLen;decide) (by rw [HP2.out];exact Nf.step2.1) (by rw [HP2.out];exact Nf.step2.2.1) (by rw [HP2.out];exact Nf.step2.2.2.1) (by rw [HP2.out];exact Nf.step2.2.2.2)).mono ?_
 rintro e w3 ⟨ep3,en3,ec3,up3,un3,uc3,op3,on3,oc3,L3,rfl,ht,hp,hq,-,hb⟩
 have J73:Hid (w3.heap[A7]? = some (BSt (.slice up un uc) (.slice op 0 oc) (.slice none 0 0) 1)):=(hb.block _ (qL K7.out)).trans K7.out
 have JA83:Hid (w3.heap[A8]? = some (BRl R1 (.slice ep en ec))):=(hb.block _ (qL K8.out)).trans K8.out
 have JR3:Hid (w3.heap[w.heap.size]? = some (BH2 0 1)):=(hb.block _ (qL KR.out)).trans KR.out
 have JB3:Hid (Below W.heap.size W w3):=KB.out.trans (hb.mono KB.out.size)
 have lA83:=(qL K8.out)
 have l73:=(qL K7.out)
 have lW3:=KB.out.size
 have JT3:Hid (TabAt (fun b=>W.heap.size<=b/\b≠A7/\b≠A8) w3 (.slice up3 un3 uc3) L3):=ht.imp (fun b hb _=>by rcases hb with h | h;exact h;exact ⟨by omega,by omega,by omega⟩)
 have JO3:Hid (At Os.EO (fun b=>W.heap.size<=b/\b≠A7/\b≠A8) w3 (.slice op3 on3 oc3) (Nf.O1)):=hq.imp (fun b hb _=>by rcases hb with h | h;exact h;exact ⟨by omega,by omega,by omega⟩)
 have JP3:Hid (pl L3 = Nf.F1):=hp
 clear ht hp hq hb lA83 l73 lW3 t0 t1 t2 t3 tf g0 g1 g2 g3 g4 g5 g6 g7 g8 g9 k0 k1
 clear K7 KT KB KR HP2 K8
 obtain ⟨t0,t1,t2,t3⟩:=st_of J73.out
 have tf:=fr_at J73.out
 obtain ⟨g0,g1,g2,g3,g4,g5,g6,g7,g8,g9⟩:=rp_of JA83.out
 have k0:=cell_at JR3.out 0
 have k1:=cell_at JR3.out 1
 simp at k0 k1
 have hl7:A7 < w3.heap.size:=(qL J73.out)
 have hl8:A8 < w3.heap.size:=(qL JA83.out)
 have hlw:w.heap.size < w3.heap.size:=(qL JR3.out)
 have hn7:w.heap.size≠A7:=by omega
 have h87:A8≠A7:=Ne.symm h78
 go_wp2_with fail
 obtain ⟨U3,hU⟩:∃ U,U = ((((w3.setCell ⟨A7,0,none⟩ (.slice up3 un3 uc3)).setCell ⟨A7,1,none⟩ (.slice op3 on3 oc3)).setCell ⟨A7,2,none⟩ (.slice none 0 0)).setCell ⟨A7,3,none⟩ (.int .i64 2)).alloc (BRl ((⟨0,0,0,0,0,0,0,⟨#[]⟩,[],0⟩:Nf.Rpl)) (.slice ep3 en3 ec3)):=⟨_,rfl⟩
 obtain ⟨B3,hA⟩:∃ a,a = w3.heap.size:=⟨_,rfl⟩
 have hU2:U3 = (w3.setCells A7 0 (cS (.slice up3 un3 uc3) (.slice op3 on3 oc3) (.slice none 0 0) 2)).alloc (BRl ((⟨0,0,0,0,0,0,0,⟨#[]⟩,[],0⟩:Nf.Rpl)) (.slice ep3 en3 ec3)):=hU
 have hs0:(w3.setCells A7 0 (cS (.slice up3 un3 uc3) (.slice op3 on3 oc3) (.slice none 0 0) 2)).heap.size = w3.heap.size:=by simp [World.setCells,World.setCell]
 have hbn:Below w3.heap.size (w3.setCells A7 0 (cS (.slice up3 un3 uc3) (.slice op3 on3 oc3) (.slice none 0 0) 2)) U3:=by rw [hU2,← hs0];exact (Below.refl _ _).alloc (Nat.le_refl _) _
 have K73:Hid (U3.heap[A7]? = some (BSt (.slice up3 un3 uc3) (.slice op3 on3 oc3) (.slice none 0 0) 2)):=(hbn.block _ hl7).trans (setCells_at (cS (.slice up3 un3 uc3) (.slice op3 on3 oc3) (.slice none 0 0) 2) J73.out rfl)
 have hkk:∀ k,k < w3.heap.size->k≠A7->U3.heap[k]? = w3.heap[k]?:=fun k hk hne=>(hbn.block _ hk).trans (setCells_off _ _ _ hne)
 have KB3:Hid (Below W.heap.size W U3):=(setCells_below hw7 (cS (.slice up3 un3 uc3) (.slice op3 on3 oc3) (.slice none 0 0) 2) 0 w3 JB3.out).trans (hbn.mono JB3.out.size)
 have KA83:Hid (U3.heap[A8]? = some (BRl R1 (.slice ep en ec))):=(hkk _ (qL JA83.out) h87).trans JA83.out
 have KR3:Hid (U3.heap[w.heap.size]? = some (BH2 0 1)):=(hkk _ hlw hn7).trans JR3.out
 have KX3:Hid (U3.heap[B3]? = some (BRl ((⟨0,0,0,0,0,0,0,⟨#[]⟩,[],0⟩:Nf.Rpl)) (.slice ep3 en3 ec3))):=by show U3.heap[B3]? = _;rw [hU2,hA,← hs0];exact heap_alloc_new _ _
 have hyB3:B3≠A7:=by omega
 have hywB3:W.heap.size<=B3:=by have h:=JB3.out.size;omega
 have KT3:Hid (TabAt (fun b=>W.heap.size<=b/\b≠A7/\b≠A8/\b≠B3) U3 (.slice up3 un3 uc3) L3):=((setCells_tab (S:=fun b=>W.heap.size<=b/\b≠A7/\b≠A8) (fun h=>h.2.1 rfl) (cS (.slice up3 un3 uc3) (.slice op3 on3 oc3) (.slice none 0 0) 2) 0 w3 JT3.out).imp (fun b hb hl=>by rw [hs0] at hl;exact ⟨hb.1,hb.2.1,hb.2.2,by omega⟩)).up (by rw [hs0];exact hbn)
 have KO3:Hid (At Os.EO (fun b=>W.heap.size<=b/\b≠A7/\b≠A8/\b≠B3) U3 (.slice op3 on3 oc3) (Nf.O1)):=((setCells_ats (S:=fun b=>W.heap.size<=b/\b≠A7/\b≠A8) (fun h=>h.2.1 rfl) (cS (.slice up3 un3 uc3) (.slice op3 on3 oc3) (.slice none 0 0) 2) 0 w3 JO3.out).imp (fun b hb hl=>by rw [hs0] at hl;exact ⟨hb.1,hb.2.1,hb.2.2,by omega⟩)).up (by rw [hs0];exact hbn)
 rw [← hU,← hA]
 clear hU hU2 hA hs0 hbn hkk hl7 hl8 hlw hn7 h87 t0 t1 t2 t3 tf g0 g1 g2 g3 g4 g5 g6 g7 g8 g9 k0 k1 J73 JR3 JB3 JT3 JO3 JA83
 obtain ⟨t0,t1,t2,t3⟩:=st_of K73.out
 have tf:=fr_at K73.out
 obtain ⟨g0,g1,g2,g3,g4,g5,g6,g7,g8,g9⟩:=rp_of KA83.out
 have k0:=cell_at KR3.out 0
 have k1:=cell_at KR3.out 1
 simp at k0 k1
 refine (do_step (S:=fun b=>W.heap.size<=b/\b≠A7/\b≠A8/\b≠B3) (R:=Nf.bad 0) (T:=Nf.F3) (Q:=Nf.O1) (D:=3) (dn:=2) (cl:=5) (c:=Nf.c3) (O:=Nf.O1) KT3.out KO3.out (Sp.okN_sp (by rw [JP3.out];exact Nf.isSp_F1)) (by unfold maxLen;decide) (by rw [JP3.out];exact Nf.step3.1) (by rw [JP3.out];exact Nf.step3.2.1) (by rw [JP3.out];exact Nf.step3.2.2.1) (by rw [JP3.out];exact Nf.step3.2.2.2)).mono ?_
 rintro e w4 ⟨ep4,en4,ec4,up4,un4,uc4,op4,on4,oc4,L4,rfl,ht,hp,hq,-,hb⟩
 have J74:Hid (w4.heap[A7]? = some (BSt (.slice up3 un3 uc3) (.slice op3 on3 oc3) (.slice none 0 0) 2)):=(hb.block _ (qL K73.out)).trans K73.out
 have JA84:Hid (w4.heap[A8]? = some (BRl R1 (.slice ep en ec))):=(hb.block _ (qL KA83.out)).trans KA83.out
 have JB34:Hid (w4.heap[B3]? = some (BRl ((⟨0,0,0,0,0,0,0,⟨#[]⟩,[],0⟩:Nf.Rpl)) (.slice ep3 en3 ec3))):=(hb.block _ (qL KX3.out)).trans KX3.out
 have JR4:Hid (w4.heap[w.heap.size]? = some (BH2 0 1)):=(hb.block _ (qL KR3.out)).trans KR3.out
 have JB4:Hid (Below W.heap.size W w4):=KB3.out.trans (hb.mono KB3.out.size)
 have lA84:=(qL KA83.out)
 have lB34:=(qL KX3.out)
 have l74:=(qL K73.out)
 have lW4:=KB3.out.size
 have JT4:Hid (TabAt (fun b=>W.heap.size<=b/\b≠A7/\b≠A8/\b≠B3) w4 (.slice up4 un4 uc4) L4):=ht.imp (fun b hb _=>by rcases hb with h | h;exact h;exact ⟨by omega,by omega,by omega,by omega⟩)
 have JO4:Hid (At Os.EO (fun b=>W.heap.size<=b/\b≠A7/\b≠A8/\b≠B3) w4 (.slice op4 on4 oc4) (Nf.O1)):=hq.imp (fun b hb _=>by rcases hb with h | h;exact h;exact ⟨by omega,by omega,by omega,by omega⟩)
 have JP4:Hid (pl L4 = Nf.F3):=hp
 clear ht hp hq hb lA84 lB34 l74 lW4 t0 t1 t2 t3 tf g0 g1 g2 g3 g4 g5 g6 g7 g8 g9 k0 k1
 clear K73 KT3 KB3 KR3 JP3 KA83 KX3
 obtain ⟨t0,t1,t2,t3⟩:=st_of J74.out
 have tf:=fr_at J74.out
 obtain ⟨g0,g1,g2,g3,g4,g5,g6,g7,g8,g9⟩:=rp_of JA84.out
 have k0:=cell_at JR4.out 0
 have k1:=cell_at JR4.out 1
 simp at k0 k1
 have hl7:A7 < w4.heap.size:=(qL J74.out)
 have hl8:A8 < w4.heap.size:=(qL JA84.out)
 have hlw:w.heap.size < w4.heap.size:=(qL JR4.out)
 have hn7:w.heap.size≠A7:=by omega
 have h87:A8≠A7:=Ne.symm h78
 go_wp2_with fail
 obtain ⟨U4,hU⟩:∃ U,U = ((((w4.setCell ⟨A7,0,none⟩ (.slice up4 un4 uc4)).setCell ⟨A7,1,none⟩ (.slice op4 on4 oc4)).setCell ⟨A7,2,none⟩ (.slice none 0 0)).setCell ⟨A7,3,none⟩ (.int .i64 3)).alloc (BRl (Nf.bad 0) (.slice ep4 en4 ec4)):=⟨_,rfl⟩
 obtain ⟨B4,hA⟩:∃ a,a = w4.heap.size:=⟨_,rfl⟩
 have hU2:U4 = (w4.setCells A7 0 (cS (.slice up4 un4 uc4) (.slice op4 on4 oc4) (.slice none 0 0) 3)).alloc (BRl (Nf.bad 0) (.slice ep4 en4 ec4)):=hU
 have hs0:(w4.setCells A7 0 (cS (.slice up4 un4 uc4) (.slice op4 on4 oc4) (.slice none 0 0) 3)).heap.size = w4.heap.size:=by simp [World.setCells,World.setCell]
 have hbn:Below w4.heap.size (w4.setCells A7 0 (cS (.slice up4 un4 uc4) (.slice op4 on4 oc4) (.slice none 0 0) 3)) U4:=by rw [hU2,← hs0];exact (Below.refl _ _).alloc (Nat.le_refl _) _
 have K74:Hid (U4.heap[A7]? = some (BSt (.slice up4 un4 uc4) (.slice op4 on4 oc4) (.slice none 0 0) 3)):=(hbn.block _ hl7).trans (setCells_at (cS (.slice up4 un4 uc4) (.slice op4 on4 oc4) (.slice none 0 0) 3) J74.out rfl)
 have hkk:∀ k,k < w4.heap.size->k≠A7->U4.heap[k]? = w4.heap[k]?:=fun k hk hne=>(hbn.block _ hk).trans (setCells_off _ _ _ hne)
 have KB4:Hid (Below W.heap.size W U4):=(setCells_below hw7 (cS (.slice up4 un4 uc4) (.slice op4 on4 oc4) (.slice none 0 0) 3) 0 w4 JB4.out).trans (hbn.mono JB4.out.size)
 have KA84:Hid (U4.heap[A8]? = some (BRl R1 (.slice ep en ec))):=(hkk _ (qL JA84.out) h87).trans JA84.out
 have KB34:Hid (U4.heap[B3]? = some (BRl ((⟨0,0,0,0,0,0,0,⟨#[]⟩,[],0⟩:Nf.Rpl)) (.slice ep3 en3 ec3))):=(hkk _ (qL JB34.out) hyB3).trans JB34.out
 have KR4:Hid (U4.heap[w.heap.size]? = some (BH2 0 1)):=(hkk _ hlw hn7).trans JR4.out
 have KX4:Hid (U4.heap[B4]? = some (BRl (Nf.bad 0) (.slice ep4 en4 ec4))):=by show U4.heap[B4]? = _;rw [hU2,hA,← hs0];exact heap_alloc_new _ _
 have hyB4:B4≠A7:=by omega
 have hywB4:W.heap.size<=B4:=by have h:=JB4.out.size;omega
 have KT4:Hid (TabAt (fun b=>W.heap.size<=b/\b≠A7/\b≠A8/\b≠B3/\b≠B4) U4 (.slice up4 un4 uc4) L4):=((setCells_tab (S:=fun b=>W.heap.size<=b/\b≠A7/\b≠A8/\b≠B3) (fun h=>h.2.1 rfl) (cS (.slice up4 un4 uc4) (.slice op4 on4 oc4) (.slice none 0 0) 3) 0 w4 JT4.out).imp (fun b hb hl=>by rw [hs0] at hl;exact ⟨hb.1,hb.2.1,hb.2.2.1,hb.2.2.2,by omega⟩)).up (by rw [hs0];exact hbn)
 have KO4:Hid (At Os.EO (fun b=>W.heap.size<=b/\b≠A7/\b≠A8/\b≠B3/\b≠B4) U4 (.slice op4 on4 oc4) (Nf.O1)):=((setCells_ats (S:=fun b=>W.heap.size<=b/\b≠A7/\b≠A8/\b≠B3) (fun h=>h.2.1 rfl) (cS (.slice up4 un4 uc4) (.slice op4 on4 oc4) (.slice none 0 0) 3) 0 w4 JO4.out).imp (fun b hb hl=>by rw [hs0] at hl;exact ⟨hb.1,hb.2.1,hb.2.2.1,hb.2.2.2,by omega⟩)).up (by rw [hs0];exact hbn)
 rw [← hU,← hA]
 clear hU hU2 hA hs0 hbn hkk hl7 hl8 hlw hn7 h87 t0 t1 t2 t3 tf g0 g1 g2 g3 g4 g5 g6 g7 g8 g9 k0 k1 J74 JR4 JB4 JT4 JO4 JA84 JB34
 obtain ⟨t0,t1,t2,t3⟩:=st_of K74.out
 have tf:=fr_at K74.out
 obtain ⟨g0,g1,g2,g3,g4,g5,g6,g7,g8,g9⟩:=rp_of KA84.out
 have k0:=cell_at KR4.out 0
 have k1:=cell_at KR4.out 1
 simp at k0 k1
 refine (do_step (S:=fun b=>W.heap.size<=b/\b≠A7/\b≠A8/\b≠B3/\b≠B4) (R:=(⟨0,0,0,1,0,1,4,⟨#[]⟩,[],0⟩:Nf.Rpl)) (T:=Nf.F4) (Q:=Nf.O1) (D:=4) (dn:=3) (cl:=5) (c:=Nf.c4) (O:=Nf.O1) KT4.out KO4.out (Sp.okN_sp (by rw [JP4.out];exact Nf.isSp_F3)) (by unfold maxLen;decide) (by rw [JP4.out];exact Nf.step4.1) (by rw [JP4.out];exact Nf.step4.2.1) (by rw [JP4.out];exact Nf.step4.2.2.1) (by rw [JP4.out];exact Nf.step4.2.2.2)).mono ?_
 rintro e w5 ⟨ep5,en5,ec5,up5,un5,uc5,op5,on5,oc5,L5,rfl,ht,hp,hq,-,hb⟩
 have J75:Hid (w5.heap[A7]? = some (BSt (.slice up4 un4 uc4) (.slice op4 on4 oc4) (.slice none 0 0) 3)):=(hb.block _ (qL K74.out)).trans K74.out
 have JA85:Hid (w5.heap[A8]? = some (BRl R1 (.slice ep en ec))):=(hb.block _ (qL KA84.out)).trans KA84.out
 have JB35:Hid (w5.heap[B3]? = some (BRl ((⟨0,0,0,0,0,0,0,⟨#[]⟩,[],0⟩:Nf.Rpl)) (.slice ep3 en3 ec3))):=(hb.block _ (qL KB34.out)).trans KB34.out
 have JB45:Hid (w5.heap[B4]? = some (BRl (Nf.bad 0) (.slice ep4 en4 ec4))):=(hb.block _ (qL KX4.out)).trans KX4.out
 have JR5:Hid (w5.heap[w.heap.size]? = some (BH2 0 1)):=(hb.block _ (qL KR4.out)).trans KR4.out
 have JB5:Hid (Below W.heap.size W w5):=KB4.out.trans (hb.mono KB4.out.size)
 have lA85:=(qL KA84.out)
 have lB35:=(qL KB34.out)
 have lB45:=(qL KX4.out)
 have l75:=(qL K74.out)
 have lW5:=KB4.out.size
 have JT5:Hid (TabAt (fun b=>W.heap.size<=b/\b≠A7/\b≠A8/\b≠B3/\b≠B4) w5 (.slice up5 un5 uc5) L5):=ht.imp (fun b hb _=>by rcases hb with h | h;exact h;exact ⟨by omega,by omega,by omega,by omega,by omega⟩)
 have JO5:Hid (At Os.EO (fun b=>W.heap.size<=b/\b≠A7/\b≠A8/\b≠B3/\b≠B4) w5 (.slice op5 on5 oc5) (Nf.O1)):=hq.imp (fun b hb _=>by rcases hb with h | h;exact h;exact ⟨by omega,by omega,by omega,by omega,by omega⟩)
 have JP5:Hid (pl L5 = Nf.F4):=hp
 clear ht hp hq hb lA85 lB35 lB45 l75 lW5 t0 t1 t2 t3 tf g0 g1 g2 g3 g4 g5 g6 g7 g8 g9 k0 k1
 clear K74 KT4 KB4 KR4 JP4 KA84 KB34 KX4
 obtain ⟨t0,t1,t2,t3⟩:=st_of J75.out
 have tf:=fr_at J75.out
 obtain ⟨g0,g1,g2,g3,g4,g5,g6,g7,g8,g9⟩:=rp_of JA85.out
 have k0:=cell_at JR5.out 0
 have k1:=cell_at JR5.out 1
 simp at k0 k1
 have hl7:A7 < w5.heap.size:=(qL J75.out)
 have hl8:A8 < w5.heap.size:=(qL JA85.out)
 have hlw:w.heap.size < w5.heap.size:=(qL JR5.out)
 have hn7:w.heap.size≠A7:=by omega
 have h87:A8≠A7:=Ne.symm h78
 go_wp2_with fail
 obtain ⟨U5,hU⟩:∃ U,U = ((((w5.setCell ⟨A7,0,none⟩ (.slice up5 un5 uc5)).setCell ⟨A7,1,none⟩ (.slice op5 on5 oc5)).setCell ⟨A7,2,none⟩ (.slice none 0 0)).setCell ⟨A7,3,none⟩ (.int .i64 4)).alloc (BRl ((⟨0,0,0,1,0,1,4,⟨#[]⟩,[],0⟩:Nf.Rpl)) (.slice ep5 en5 ec5)):=⟨_,rfl⟩
 obtain ⟨B5,hA⟩:∃ a,a = w5.heap.size:=⟨_,rfl⟩
 have hU2:U5 = (w5.setCells A7 0 (cS (.slice up5 un5 uc5) (.slice op5 on5 oc5) (.slice none 0 0) 4)).alloc (BRl ((⟨0,0,0,1,0,1,4,⟨#[]⟩,[],0⟩:Nf.Rpl)) (.slice ep5 en5 ec5)):=hU
 have hs0:(w5.setCells A7 0 (cS (.slice up5 un5 uc5) (.slice op5 on5 oc5) (.slice none 0 0) 4)).heap.size = w5.heap.size:=by simp [World.setCells,World.setCell]
 have hbn:Below w5.heap.size (w5.setCells A7 0 (cS (.slice up5 un5 uc5) (.slice op5 on5 oc5) (.slice none 0 0) 4)) U5:=by rw [hU2,← hs0];exact (Below.refl _ _).alloc (Nat.le_refl _) _
 have K75:Hid (U5.heap[A7]? = some (BSt (.slice up5 un5 uc5) (.slice op5 on5 oc5) (.slice none 0 0) 4)):=(hbn.block _ hl7).trans (setCells_at (cS (.slice up5 un5 uc5) (.slice op5 on5 oc5) (.slice none 0 0) 4) J75.out rfl)
 have hkk:∀ k,k < w5.heap.size->k≠A7->U5.heap[k]? = w5.heap[k]?:=fun k hk hne=>(hbn.block _ hk).trans (setCells_off _ _ _ hne)
 have KB5:Hid (Below W.heap.size W U5):=(setCells_below hw7 (cS (.slice up5 un5 uc5) (.slice op5 on5 oc5) (.slice none 0 0) 4) 0 w5 JB5.out).trans (hbn.mono JB5.out.size)
 have KA85:Hid (U5.heap[A8]? = some (BRl R1 (.slice ep en ec))):=(hkk _ (qL JA85.out) h87).trans JA85.out
 have KB35:Hid (U5.heap[B3]? = some (BRl ((⟨0,0,0,0,0,0,0,⟨#[]⟩,[],0⟩:Nf.Rpl)) (.slice ep3 en3 ec3))):=(hkk _ (qL JB35.out) hyB3).trans JB35.out
 have KB45:Hid (U5.heap[B4]? = some (BRl (Nf.bad 0) (.slice ep4 en4 ec4))):=(hkk _ (qL JB45.out) hyB4).trans JB45.out
 have KR5:Hid (U5.heap[w.heap.size]? = some (BH2 0 1)):=(hkk _ hlw hn7).trans JR5.out
 have KX5:Hid (U5.heap[B5]? = some (BRl ((⟨0,0,0,1,0,1,4,⟨#[]⟩,[],0⟩:Nf.Rpl)) (.slice ep5 en5 ec5))):=by show U5.heap[B5]? = _;rw [hU2,hA,← hs0];exact heap_alloc_new _ _
 have hyB5:B5≠A7:=by omega
 have hywB5:W.heap.size<=B5:=by have h:=JB5.out.size;omega
 have KT5:Hid (TabAt (fun b=>W.heap.size<=b/\b≠A7/\b≠A8/\b≠B3/\b≠B4/\b≠B5) U5 (.slice up5 un5 uc5) L5):=((setCells_tab (S:=fun b=>W.heap.size<=b/\b≠A7/\b≠A8/\b≠B3/\b≠B4) (fun h=>h.2.1 rfl) (cS (.slice up5 un5 uc5) (.slice op5 on5 oc5) (.slice none 0 0) 4) 0 w5 JT5.out).imp (fun b hb hl=>by rw [hs0] at hl;exact ⟨hb.1,hb.2.1,hb.2.2.1,hb.2.2.2.1,hb.2.2.2.2,by omega⟩)).up (by rw [hs0];exact hbn)
 have KO5:Hid (At Os.EO (fun b=>W.heap.size<=b/\b≠A7/\b≠A8/\b≠B3/\b≠B4/\b≠B5) U5 (.slice op5 on5 oc5) (Nf.O1)):=((setCells_ats (S:=fun b=>W.heap.size<=b/\b≠A7/\b≠A8/\b≠B3/\b≠B4) (fun h=>h.2.1 rfl) (cS (.slice up5 un5 uc5) (.slice op5 on5 oc5) (.slice none 0 0) 4) 0 w5 JO5.out).imp (fun b hb hl=>by rw [hs0] at hl;exact ⟨hb.1,hb.2.1,hb.2.2.1,hb.2.2.2.1,hb.2.2.2.2,by omega⟩)).up (by rw [hs0];exact hbn)
 rw [← hU,← hA]
 clear hU hU2 hA hs0 hbn hkk hl7 hl8 hlw hn7 h87 t0 t1 t2 t3 tf g0 g1 g2 g3 g4 g5 g6 g7 g8 g9 k0 k1 J75 JR5 JB5 JT5 JO5 JA85 JB35 JB45
 obtain ⟨t0,t1,t2,t3⟩:=st_of K75.out
 have tf:=fr_at K75.out
 obtain ⟨g0,g1,g2,g3,g4,g5,g6,g7,g8,g9⟩:=rp_of KA85.out
 have k0:=cell_at KR5.out 0
 have k1:=cell_at KR5.out 1
 simp at k0 k1
 refine (do_step (S:=fun b=>W.heap.size<=b/\b≠A7/\b≠A8/\b≠B3/\b≠B4/\b≠B5) (R:=Nf.bad 0) (T:=Nf.F5) (Q:=[]) (D:=5) (dn:=4) (cl:=5) (c:=Nf.c5) (O:=Nf.O1) KT5.out KO5.out (Sp.okN_sp (by rw [JP5.out];exact Nf.isSp_F4)) (by unfold maxLen;decide) (by rw [JP5.out];exact Nf.step5.1) (by rw [JP5.out];exact Nf.step5.2.1) (by rw [JP5.out];exact Nf.step5.2.2.1) (by rw [JP5.out];exact Nf.step5.2.2.2)).mono ?_
 rintro e w6 ⟨ep6,en6,ec6,up6,un6,uc6,op6,on6,oc6,L6,rfl,ht,hp,hq,-,hb⟩
 have J76:Hid (w6.heap[A7]? = some (BSt (.slice up5 un5 uc5) (.slice op5 on5 oc5) (.slice none 0 0) 4)):=(hb.block _ (qL K75.out)).trans K75.out
 have JA86:Hid (w6.heap[A8]? = some (BRl R1 (.slice ep en ec))):=(hb.block _ (qL KA85.out)).trans KA85.out
 have JB36:Hid (w6.heap[B3]? = some (BRl ((⟨0,0,0,0,0,0,0,⟨#[]⟩,[],0⟩:Nf.Rpl)) (.slice ep3 en3 ec3))):=(hb.block _ (qL KB35.out)).trans KB35.out
 have JB46:Hid (w6.heap[B4]? = some (BRl (Nf.bad 0) (.slice ep4 en4 ec4))):=(hb.block _ (qL KB45.out)).trans KB45.out
 have JB56:Hid (w6.heap[B5]? = some (BRl ((⟨0,0,0,1,0,1,4,⟨#[]⟩,[],0⟩:Nf.Rpl)) (.slice ep5 en5 ec5))):=(hb.block _ (qL KX5.out)).trans KX5.out
 have JR6:Hid (w6.heap[w.heap.size]? = some (BH2 0 1)):=(hb.block _ (qL KR5.out)).trans KR5.out
 have JB6:Hid (Below W.heap.size W w6):=KB5.out.trans (hb.mono KB5.out.size)
 have lA86:=(qL KA85.out)
 have lB36:=(qL KB35.out)
 have lB46:=(qL KB45.out)
 have lB56:=(qL KX5.out)
 have l76:=(qL K75.out)
 have lW6:=KB5.out.size
 have JT6:Hid (TabAt (fun b=>W.heap.size<=b/\b≠A7/\b≠A8/\b≠B3/\b≠B4/\b≠B5) w6 (.slice up6 un6 uc6) L6):=ht.imp (fun b hb _=>by rcases hb with h | h;exact h;exact ⟨by omega,by omega,by omega,by omega,by omega,by omega⟩)
 have JO6:Hid (At Os.EO (fun b=>W.heap.size<=b/\b≠A7/\b≠A8/\b≠B3/\b≠B4/\b≠B5) w6 (.slice op6 on6 oc6) ([])):=hq.imp (fun b hb _=>by rcases hb with h | h;exact h;exact ⟨by omega,by omega,by omega,by omega,by omega,by omega⟩)
 have JP6:Hid (pl L6 = Nf.F5):=hp
 clear ht hp hq hb lA86 lB36 lB46 lB56 l76 lW6 t0 t1 t2 t3 tf g0 g1 g2 g3 g4 g5 g6 g7 g8 g9 k0 k1
 clear K75 KT5 KB5 KR5 JP5 KA85 KB35 KB45 KX5
 obtain ⟨t0,t1,t2,t3⟩:=st_of J76.out
 have tf:=fr_at J76.out
 obtain ⟨g0,g1,g2,g3,g4,g5,g6,g7,g8,g9⟩:=rp_of JA86.out
 have k0:=cell_at JR6.out 0
 have k1:=cell_at JR6.out 1
 simp at k0 k1
 have hl7:A7 < w6.heap.size:=(qL J76.out)
 have hl8:A8 < w6.heap.size:=(qL JA86.out)
 have hlw:w.heap.size < w6.heap.size:=(qL JR6.out)
 have hn7:w.heap.size≠A7:=by omega
 have h87:A8≠A7:=Ne.symm h78
 obtain ⟨R6,hR6⟩:∃ R,Nf.doR Nf.F5 [] 5 5 Nf.c6 = R:=⟨_,rfl⟩
 obtain ⟨T6,hT6⟩:∃ R,Nf.doT Nf.F5 [] 5 5 Nf.c6 = R:=⟨_,rfl⟩
 obtain ⟨Q6,hQ6⟩:∃ R,Nf.doO Nf.F5 [] 5 5 Nf.c6 = R:=⟨_,rfl⟩
 have HR6:Hid (Nf.doR Nf.F5 [] 5 5 Nf.c6 = R6):=hR6
 have HT6:Hid (Nf.doT Nf.F5 [] 5 5 Nf.c6 = T6):=hT6
 have HQ6:Hid (Nf.doO Nf.F5 [] 5 5 Nf.c6 = Q6):=hQ6
 clear hR6 hT6 hQ6
 go_wp2_with fail
 obtain ⟨U6,hU⟩:∃ U,U = ((((w6.setCell ⟨A7,0,none⟩ (.slice up6 un6 uc6)).setCell ⟨A7,1,none⟩ (.slice op6 on6 oc6)).setCell ⟨A7,2,none⟩ (.slice none 0 0)).setCell ⟨A7,3,none⟩ (.int .i64 5)).alloc (BRl (Nf.bad 0) (.slice ep6 en6 ec6)):=⟨_,rfl⟩
 obtain ⟨B6,hA⟩:∃ a,a = w6.heap.size:=⟨_,rfl⟩
 have hU2:U6 = (w6.setCells A7 0 (cS (.slice up6 un6 uc6) (.slice op6 on6 oc6) (.slice none 0 0) 5)).alloc (BRl (Nf.bad 0) (.slice ep6 en6 ec6)):=hU
 have hs0:(w6.setCells A7 0 (cS (.slice up6 un6 uc6) (.slice op6 on6 oc6) (.slice none 0 0) 5)).heap.size = w6.heap.size:=by simp [World.setCells,World.setCell]
 have hbn:Below w6.heap.size (w6.setCells A7 0 (cS (.slice up6 un6 uc6) (.slice op6 on6 oc6) (.slice none 0 0) 5)) U6:=by rw [hU2,← hs0];exact (Below.refl _ _).alloc (Nat.le_refl _) _
 have K76:Hid (U6.heap[A7]? = some (BSt (.slice up6 un6 uc6) (.slice op6 on6 oc6) (.slice none 0 0) 5)):=(hbn.block _ hl7).trans (setCells_at (cS (.slice up6 un6 uc6) (.slice op6 on6 oc6) (.slice none 0 0) 5) J76.out rfl)
 have hkk:∀ k,k < w6.heap.size->k≠A7->U6.heap[k]? = w6.heap[k]?:=fun k hk hne=>(hbn.block _ hk).trans (setCells_off _ _ _ hne)
 have KB6:Hid (Below W.heap.size W U6):=(setCells_below hw7 (cS (.slice up6 un6 uc6) (.slice op6 on6 oc6) (.slice none 0 0) 5) 0 w6 JB6.out).trans (hbn.mono JB6.out.size)
 have KA86:Hid (U6.heap[A8]? = some (BRl R1 (.slice ep en ec))):=(hkk _ (qL JA86.out) h87).trans JA86.out
 have KB36:Hid (U6.heap[B3]? = some (BRl ((⟨0,0,0,0,0,0,0,⟨#[]⟩,[],0⟩:Nf.Rpl)) (.slice ep3 en3 ec3))):=(hkk _ (qL JB36.out) hyB3).trans JB36.out
 have KB46:Hid (U6.heap[B4]? = some (BRl (Nf.bad 0) (.slice ep4 en4 ec4))):=(hkk _ (qL JB46.out) hyB4).trans JB46.out
 have KB56:Hid (U6.heap[B5]? = some (BRl ((⟨0,0,0,1,0,1,4,⟨#[]⟩,[],0⟩:Nf.Rpl)) (.slice ep5 en5 ec5))):=(hkk _ (qL JB56.out) hyB5).trans JB56.out
 have KR6:Hid (U6.heap[w.heap.size]? = some (BH2 0 1)):=(hkk _ hlw hn7).trans JR6.out
 have KX6:Hid (U6.heap[B6]? = some (BRl (Nf.bad 0) (.slice ep6 en6 ec6))):=by show U6.heap[B6]? = _;rw [hU2,hA,← hs0];exact heap_alloc_new _ _
 have hyB6:B6≠A7:=by omega
 have hywB6:W.heap.size<=B6:=by have h:=JB6.out.size;omega
 have KT6:Hid (TabAt (fun b=>W.heap.size<=b/\b≠A7/\b≠A8/\b≠B3/\b≠B4/\b≠B5/\b≠B6) U6 (.slice up6 un6 uc6) L6):=((setCells_tab (S:=fun b=>W.heap.size<=b/\b≠A7/\b≠A8/\b≠B3/\b≠B4/\b≠B5) (fun h=>h.2.1 rfl) (cS (.slice up6 un6 uc6) (.slice op6 on6 oc6) (.slice none 0 0) 5) 0 w6 JT6.out).imp (fun b hb hl=>by rw [hs0] at hl;exact ⟨hb.1,hb.2.1,hb.2.2.1,hb.2.2.2.1,hb.2.2.2.2.1,hb.2.2.2.2.2,by omega⟩)).up (by rw [hs0];exact hbn)
 have KO6:Hid (At Os.EO (fun b=>W.heap.size<=b/\b≠A7/\b≠A8/\b≠B3/\b≠B4/\b≠B5/\b≠B6) U6 (.slice op6 on6 oc6) ([])):=((setCells_ats (S:=fun b=>W.heap.size<=b/\b≠A7/\b≠A8/\b≠B3/\b≠B4/\b≠B5) (fun h=>h.2.1 rfl) (cS (.slice up6 un6 uc6) (.slice op6 on6 oc6) (.slice none 0 0) 5) 0 w6 JO6.out).imp (fun b hb hl=>by rw [hs0] at hl;exact ⟨hb.1,hb.2.1,hb.2.2.1,hb.2.2.2.1,hb.2.2.2.2.1,hb.2.2.2.2.2,by omega⟩)).up (by rw [hs0];exact hbn)
 rw [← hU,← hA]
 clear hU hU2 hA hs0 hbn hkk hl7 hl8 hlw hn7 h87 t0 t1 t2 t3 tf g0 g1 g2 g3 g4 g5 g6 g7 g8 g9 k0 k1 J76 JR6 JB6 JT6 JO6 JA86 JB36 JB46 JB56
 obtain ⟨t0,t1,t2,t3⟩:=st_of K76.out
 have tf:=fr_at K76.out
 obtain ⟨g0,g1,g2,g3,g4,g5,g6,g7,g8,g9⟩:=rp_of KA86.out
 have k0:=cell_at KR6.out 0
 have k1:=cell_at KR6.out 1
 simp at k0 k1
 refine (do_step (S:=fun b=>W.heap.size<=b/\b≠A7/\b≠A8/\b≠B3/\b≠B4/\b≠B5/\b≠B6) (R:=R6) (T:=T6) (Q:=Q6) (D:=6) (dn:=5) (cl:=5) (c:=Nf.c6) (O:=[]) KT6.out KO6.out (Sp.okN_sp (by rw [JP6.out];exact Nf.isSp_F5)) (by unfold maxLen;decide) (by rw [JP6.out];exact HR6.out) (by rw [JP6.out];exact HT6.out) (by rw [JP6.out];exact HQ6.out) (by rw [JP6.out];exact Nf.step6.2)).mono ?_
 rintro e w7 ⟨ep7,en7,ec7,up7,un7,uc7,op7,on7,oc7,L7,rfl,ht,hp,hq,-,hb⟩
 have J77:Hid (w7.heap[A7]? = some (BSt (.slice up6 un6 uc6) (.slice op6 on6 oc6) (.slice none 0 0) 5)):=(hb.block _ (qL K76.out)).trans K76.out
 have JA87:Hid (w7.heap[A8]? = some (BRl R1 (.slice ep en ec))):=(hb.block _ (qL KA86.out)).trans KA86.out
 have JB37:Hid (w7.heap[B3]? = some (BRl ((⟨0,0,0,0,0,0,0,⟨#[]⟩,[],0⟩:Nf.Rpl)) (.slice ep3 en3 ec3))):=(hb.block _ (qL KB36.out)).trans KB36.out
 have JB47:Hid (w7.heap[B4]? = some (BRl (Nf.bad 0) (.slice ep4 en4 ec4))):=(hb.block _ (qL KB46.out)).trans KB46.out
 have JB57:Hid (w7.heap[B5]? = some (BRl ((⟨0,0,0,1,0,1,4,⟨#[]⟩,[],0⟩:Nf.Rpl)) (.slice ep5 en5 ec5))):=(hb.block _ (qL KB56.out)).trans KB56.out
 have JB67:Hid (w7.heap[B6]? = some (BRl (Nf.bad 0) (.slice ep6 en6 ec6))):=(hb.block _ (qL KX6.out)).trans KX6.out
 have JR7:Hid (w7.heap[w.heap.size]? = some (BH2 0 1)):=(hb.block _ (qL KR6.out)).trans KR6.out
 have JB7:Hid (Below W.heap.size W w7):=KB6.out.trans (hb.mono KB6.out.size)
 have lA87:=(qL KA86.out)
 have lB37:=(qL KB36.out)
 have lB47:=(qL KB46.out)
 have lB57:=(qL KB56.out)
 have lB67:=(qL KX6.out)
 have l77:=(qL K76.out)
 have lW7:=KB6.out.size
 have JT7:Hid (TabAt (fun b=>W.heap.size<=b/\b≠A7/\b≠A8/\b≠B3/\b≠B4/\b≠B5/\b≠B6) w7 (.slice up7 un7 uc7) L7):=ht.imp (fun b hb _=>by rcases hb with h | h;exact h;exact ⟨by omega,by omega,by omega,by omega,by omega,by omega,by omega⟩)
 have JO7:Hid (At Os.EO (fun b=>W.heap.size<=b/\b≠A7/\b≠A8/\b≠B3/\b≠B4/\b≠B5/\b≠B6) w7 (.slice op7 on7 oc7) (Q6)):=hq.imp (fun b hb _=>by rcases hb with h | h;exact h;exact ⟨by omega,by omega,by omega,by omega,by omega,by omega,by omega⟩)
 have JP7:Hid (pl L7 = T6):=hp
 clear ht hp hq hb lA87 lB37 lB47 lB57 lB67 l77 lW7 t0 t1 t2 t3 tf g0 g1 g2 g3 g4 g5 g6 g7 g8 g9 k0 k1
 clear K76 KT6 KB6 KR6 JP6 KA86 KB36 KB46 KB56 KX6
 obtain ⟨t0,t1,t2,t3⟩:=st_of J77.out
 have tf:=fr_at J77.out
 obtain ⟨g0,g1,g2,g3,g4,g5,g6,g7,g8,g9⟩:=rp_of JA87.out
 have k0:=cell_at JR7.out 0
 have k1:=cell_at JR7.out 1
 simp at k0 k1
 have hl7:A7 < w7.heap.size:=(qL J77.out)
 have hl8:A8 < w7.heap.size:=(qL JA87.out)
 have hlw:w.heap.size < w7.heap.size:=(qL JR7.out)
 have hn7:w.heap.size≠A7:=by omega
 have h87:A8≠A7:=Ne.symm h78
 have h6:R6.e = 401:=by rw [← HR6.out];exact Nf.step6.1
 have zB3:w7.cell? ⟨B3,0,none⟩ = some (.int .i64 0):=cell_at JB37.out 0
 have zlB3:B3 < w7.heap.size:=(qL JB37.out)
 have zB4:w7.cell? ⟨B4,0,none⟩ = some (.int .i64 0):=cell_at JB47.out 0
 have zlB4:B4 < w7.heap.size:=(qL JB47.out)
 have zB5:w7.cell? ⟨B5,0,none⟩ = some (.int .i64 0):=cell_at JB57.out 0
 have zlB5:B5 < w7.heap.size:=(qL JB57.out)
 have zB6:w7.cell? ⟨B6,0,none⟩ = some (.int .i64 0):=cell_at JB67.out 0
 have zlB6:B6 < w7.heap.size:=(qL JB67.out)
 go_wp2
 go_ret
 refine ⟨rfl,?_⟩
 refine (HB0.out.trans ?_)
 refine Below.mono (B:=W.heap.size) ?_ HB0.out.size
 refine Below.alloc ?_ (by have h:=JB7.out.size;simpa using h) _
 exact setCells_below hw7 (cS (.slice up7 un7 uc7) (.slice op7 on7 oc7) (.slice none 0 0) 6) 0 w7 JB7.out
end Go.Proofs.YtneojimodomohaaGreat
