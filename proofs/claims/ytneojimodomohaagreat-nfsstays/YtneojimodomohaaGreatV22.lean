/- NMe3, NLi, OConcat, as one. -/
import Derived.Test.YtneojimodomohaaGreatV21
set_option maxHeartbeats 8000000
set_option maxRecDepth 100000
namespace Go.Proofs.YtneojimodomohaaGreat
open Go.ChangeShapes Go.WideShapes Go.ChangeAt Go.RowKit Go.Deep It
namespace Nf
def sel (E:Int) (u v:Value):Value:=if E = 0 then u else v
def att (E:Int) (L:List Ino) (no:Int) (q:Int × Int × Int × Int):Prop:=(E = 0->q = ((atR L no).kind,(atR L no).links,(atR L no).size,(atR L no).stamp))/\(E≠0->q = (0,0,0,0))
end Nf
abbrev cV (e a b k l s t:Int):List Value:=[.int .i64 e,.int .i64 a,.int .i64 b,.int .i64 k,.int .i64 l,.int .i64 s,.int .i64 t,.string ⟨#[]⟩,.slice none 0 0,.int .i64 0]
theorem setCells_tab {S:Nat->Prop} {A:Nat} {v:Value} {L:List Rw} (hA:¬ S A):∀ (vs:List Value) (o:Nat) (w:World),TabAt S w v L->TabAt S (w.setCells A o vs) v L
 | [],_,_,h=>h
 | _ :: vs,o,_,h=>setCells_tab hA vs (o + 1) _ ⟨h.1.setCell hA _,fun x hx=>(h.2 x hx).setCell hA _⟩
theorem mk_hit {L:List Ino} {L':List Rw} {a b:Int} {s:ByteArray} {kind st:Int} (h:Sp.mkE (Sp.chk Sp.isSp) L a b s kind st = 0) (hp:pl L' = Sp.mkT (Sp.chk Sp.isSp) L a b s kind st):∃ (k:Nat) (y:Rw),(Sp.mkH (Sp.chk Sp.isSp) L a b s kind st).1 = (k:Int)/\L'[k]? = some y/\Nf.atR (pl L') (Sp.mkH (Sp.chk Sp.isSp) L a b s kind st).1 = y.i:=by
 obtain ⟨kc,xc,nn,g,-,-,-,-,-,hH,-,hne,-,hg⟩:=Sp.make_form h;have h1:(pl L')[nn]? = some (fresh g kind st):=by
  rw [hp,hg,if_neg (fun e=>hne e.symm),if_pos rfl]
 obtain ⟨y,hy,hyi⟩:=Sp.pl_some h1;refine ⟨nn,y,by rw [hH],hy,?_⟩;rw [hH];unfold Nf.atR;show ((pl L')[((nn:Int)).toNat]?).getD zeroI = y.i;rw [show ((nn:Int)).toNat = nn by omega,h1,hyi];rfl
theorem mk_none {L:List Ino} {a b qa qb kind st:Int} {s:ByteArray} (h:Sp.mkE (Sp.chk Sp.isSp) L a b s kind st≠0) (hq:Sp.mkH (Sp.chk Sp.isSp) L a b s kind st = (qa,qb)):qa = 0/\qb = 0:=by
 unfold Sp.mkH at hq;rw [if_neg h] at hq;exact ⟨(congrArg Prod.fst hq).symm,(congrArg Prod.snd hq).symm⟩
theorem nmake_any {S : Nat → Prop} (vi vo vs : Value) (dn cl : Int) (c : Cal) (L : List Rw) (B : Nat) (kind : Int) (w : World) (hB : w.heap[B]? = some (BTk vi vo vs dn cl c)) (hv : TabAt S w vi L) (hok : Sp.okN L) (hs : c.nm.size ≤ maxLen) :
    Calls Tryz.prog 95 #[.pointer (some ⟨B,0,none⟩),.int .i64 kind] w fun e w'=>∃ (u:Value) (L':List Rw) (k l s t:Int),e = .returned (VRp (Sp.mkE (Sp.chk Sp.isSp) (pl L) c.no c.gen c.nm kind dn) (Sp.mkH (Sp.chk Sp.isSp) (pl L) c.no c.gen c.nm kind dn).1 (Sp.mkH (Sp.chk Sp.isSp) (pl L) c.no c.gen c.nm kind dn).2 k l s t ⟨#[]⟩ (.slice none 0 0) 0)/\w'.heap[B]? = some (BTk (Nf.sel (Sp.mkE (Sp.chk Sp.isSp) (pl L) c.no c.gen c.nm kind dn) u vi) vo vs dn cl c)/\TabAt (fun b=>w.heap.size < b) w' u L'/\pl L' = Sp.mkT (Sp.chk Sp.isSp) (pl L) c.no c.gen c.nm kind dn/\Nf.att (Sp.mkE (Sp.chk Sp.isSp) (pl L) c.no c.gen c.nm kind dn) (pl L') (Sp.mkH (Sp.chk Sp.isSp) (pl L) c.no c.gen c.nm kind dn).1 (k,l,s,t)/\w.grownBy w' (some B):=by
  have hBl:=(Array.getElem?_eq_some_iff.1 hB).1;have HB:Hid (w.heap[B]? = some (BTk vi vo vs dn cl c)):=hB;obtain ⟨W,hW⟩:=qF (w.alloc BR0);have HB0:Hid _:=qB hW;have HA0:Hid _:=qC hW;have HT0:Hid (W.heap[B]? = some (BTk vi vo vs dn cl c)):=(HB0.out.block _ hBl).trans hB;have HV:Hid (TabAt S W vi L):=hv.up HB0.out;have hwW:w.heap.size < W.heap.size:=(Array.getElem?_eq_some_iff.1 HA0.out).1;have hBW:B < W.heap.size:=(Array.getElem?_eq_some_iff.1 HT0.out).1;have hBne:B≠w.heap.size:=by omega
  obtain ⟨t0,-,-,t3,-,-,t6,t7,-,-,t10,-,-,-,-⟩:=tk_of HT0.out;obtain ⟨ao,cap,rfl,-,-⟩:=hv.open;obtain ⟨n,hn'⟩:=qE L.length;rw [hn'] at t0 HV HT0 HB ⊢;have HSG:Hid (∀ V:World,Bw W V->V.cell? ⟨B,0,none⟩ = some (.slice ao n cap)/\V.cell? ⟨B,3,none⟩ = some (.int .i64 dn)/\V.cell? ⟨B,6,none⟩ = some (.int .i64 c.no)/\V.cell? ⟨B,7,none⟩ = some (.int .i64 c.gen)/\V.cell? ⟨B,10,none⟩ = some (.string c.nm)):=fun V h=>⟨cell_step t0 h,cell_step t3 h,cell_step t6 h,cell_step t7 h,cell_step t10 h⟩
  clear hv hB hn' t0 t3 t6 t7 t10;obtain ⟨E,hE⟩:=qE (Sp.mkE (Sp.chk Sp.isSp) (pl L) c.no c.gen c.nm kind dn);obtain ⟨⟨qa,qb⟩,hq⟩:=qE (Sp.mkH (Sp.chk Sp.isSp) (pl L) c.no c.gen c.nm kind dn);obtain ⟨T,hT⟩:=qE (Sp.mkT (Sp.chk Sp.isSp) (pl L) c.no c.gen c.nm kind dn);have HIT:Hid (∀ L':List Rw,E = 0->pl L' = T->∃ (k:Nat) (y:Rw),qa = (k:Int)/\L'[k]? = some y/\Nf.atR (pl L') qa = y.i):=fun L' h0 hp=>by
    have:=mk_hit (hE.trans h0) (hp.trans hT.symm);rw [hq] at this;exact this
  have HNO:Hid (E≠0->qa = 0/\qb = 0):=fun h0=>mk_none (by rw [hE];exact h0) hq
  rw [hE,hq,hT];simp only;have HC:Hid (∀ V,Bw W V->Calls Tryz.prog 145 #[.slice ao n cap,.agg #[.int .i64 c.no,.int .i64 c.gen],.string c.nm,.int .i64 kind,.int .i64 dn] V fun e w'=>∃ p m q L',e = .returned (.tuple #[.slice p m q,.agg #[.int .i64 qa,.int .i64 qb],.int .i64 E])/\(TabAt (fun b=>V.heap.size<=b) w' (.slice p m q) L'/\pl L' = T)/\Bw V w'):=fun V h=>by
    refine (smake_any scheck_any isSp_means _ L c.no c.gen c.nm kind dn V (HV.out.up h) hok hs).mono ?_;rintro e w' ⟨u,L',h1,h2,h3,h4⟩;rw [hE,hq] at h1;rw [hT] at h3;obtain ⟨p4,z4,hu,-,-⟩:=h2.open;subst hu;exact ⟨p4,L'.length,z4,L',h1,⟨h2,h3⟩,h4⟩
  clear hE hq hT hok hs;go_enter Tryz.func95,Tryz.ntmps95;go_wp2_with fail;rw [← hW];clear hW;have HB01:Hid (Bw W (W.alloc (BH 0 0))):=qG _ _;have HB02:Hid (Bw W (W.drew.alloc (BH 0 0))):=(bel_drew (Below.refl _ _)).alloc (Nat.le_refl _) _;apply cut_in
  · intro hK
    go_region_held3 (fun V=>V.cell? ⟨B,0,none⟩ = some (.slice ao n cap)/\V.cell? ⟨B,3,none⟩ = some (.int .i64 dn)/\V.cell? ⟨B,6,none⟩ = some (.int .i64 c.no)/\V.cell? ⟨B,7,none⟩ = some (.int .i64 c.gen)/\V.cell? ⟨B,10,none⟩ = some (.string c.nm)) (first | exact HSG.out _ (by (repeat (first | with_reducible assumption | with_reducible exact Below.refl _ _ | with_reducible refine bel_drew ?_ | with_reducible refine Below.setCell ?_ (by first | exact Nat.le_refl _ | assumption) _ | with_reducible refine Below.alloc ?_ (by first | exact Nat.le_refl _ | assumption) _)))) (first
      | (go_at_call 145; refine (HC.out _ (by first | exact Below.refl _ _ | exact bel_drew (Below.refl _ _) | exact HB01.out | exact HB02.out | exact bel_drew HB01.out)).mono ?_; rintro e w5 ⟨p, m, q, L1, rfl, ht5, hb5⟩; have HT5 : Hid (pl L1 = T) := ht5.2; have hb55 : Bw W w5 := (by first | exact hb5 | exact undrew hb5 | exact HB02.out.trans (hb5.mono HB02.out.size) | exact HB01.out.trans ((undrew hb5).mono HB01.out.size) | exact HB01.out.trans (hb5.mono HB01.out.size)); have h5s : W.heap.size ≤ w5.heap.size := hb55.size; (first
        | (have hz5:w5.heap[W.heap.size]? = some (BH 0 0):=(by first | exact (hb5.block _ (by simp)).trans (heap_alloc_new W.drew _) | exact (hb5.block _ (by show _ < Array.size _;simp)).trans (heap_alloc_new W _));have f0:=cell_at hz5 0;have f1:=cell_at hz5 1;have ff:=fr_at hz5;have HZ5:Hid (w5.heap[W.heap.size]? = some (BH 0 0)):=hz5;have HTB:Hid (TabAt (fun b=>W.heap.size < b) w5 (.slice p m q) L1):=ht5.1.imp (fun b hb _=>by simp at hb;omega);clear ht5;clear hz5)
        | (have HTB:Hid (TabAt (fun b=>W.heap.size<=b) w5 (.slice p m q) L1):=ht5.1.imp (fun b hb _=>by first | exact hb | (simp at hb;omega));clear ht5));clear hb5))
    all_goals first
      | (obtain ⟨Y, hY⟩ : ∃ Y, Y = w5.alloc (BH qa qb) := ⟨_, rfl⟩
         rw [← hY];have hYB:Bw W Y:=by rw [hY];exact hb55.alloc hb55.size _
         obtain ⟨A,hA⟩:=qF w5.heap.size;have hYX:Y.heap[A]? = some (BH qa qb):=by rw [hY,hA];exact heap_alloc_new _ _
         have hAw:W.heap.size<=A:=by rw [hA];exact h5s
         have hYT:TabAt (fun b=>w.heap.size < b) Y (.slice p m q) L1:=by rw [hY];exact (HTB.out.imp (fun b hb _=>Nat.lt_of_lt_of_le hwW hb)).up (qG _ _)
         rw [← hA];clear hA hY)
      | (obtain ⟨Y, hY⟩ : ∃ Y, Y = ((w5.setCell ⟨W.heap.size, 0, none⟩ (.int .i64 qa)).setCell ⟨W.heap.size, 1, none⟩ (.int .i64 qb)) := ⟨_, rfl⟩
         rw [← hY];have hYe:Y = w5.setCells W.heap.size 0 ([.int .i64 qa,.int .i64 qb]):=hY;have hYB:Bw W Y:=by rw [hYe];exact setCells_below (Nat.le_refl _) _ _ _ hb55
         obtain ⟨A,hA⟩:=qF W.heap.size;have hYX:Y.heap[A]? = some (BH qa qb):=by rw [hYe,hA];exact setCells_at ([.int .i64 qa,.int .i64 qb]) HZ5.out rfl
         have hAw:W.heap.size<=A:=by rw [hA];exact Nat.le_refl _
         have hYT:TabAt (fun b=>w.heap.size < b) Y (.slice p m q) L1:=by rw [hYe];exact (setCells_tab (fun h=>Nat.lt_irrefl _ h) _ _ _ HTB.out).imp (fun b hb _=>Nat.lt_trans hwW hb)
         rw [← hA];clear hA hY hYe f0 f1 ff HZ5)
    all_goals
      have HR:Hid (Bw W Y/\Y.heap[A]? = some (BH qa qb)/\W.heap.size<=A/\TabAt (fun b=>w.heap.size < b) Y (.slice p m q) L1/\pl L1 = T):=⟨hYB,hYX,hAw,hYT,HT5.out⟩;clear hYB hYX hAw hYT HT5 HTB;revert HR;revert A Y L1 q m p;exact hK.out
  intro p m q L1 Y A HR;clear HSG HB01 HB02 HC;have HBY:Hid (Bw w Y):=HB0.out.trans (HR.out.1.mono HB0.out.size);have HZ:Hid (Y.heap[w.heap.size]? = some BR0):=(HR.out.1.block _ hwW).trans HA0.out;have HTY:Hid (Y.heap[B]? = some (BTk (.slice ao n cap) vo vs dn cl c)):=(HR.out.1.block _ hBW).trans HT0.out;have HVY:Hid (TabAt (fun b=>w.heap.size < b) Y (.slice p m q) L1/\pl L1 = T):=HR.out.2.2.2;have hzl:=(Array.getElem?_eq_some_iff.1 HZ.out).1;have hAl:=(Array.getElem?_eq_some_iff.1 HR.out.2.1).1;have hAne:w.heap.size≠A:=by have:=HR.out.2.2.1;omega
  have hAB:A≠B:=by have:=HR.out.2.2.1;omega
  have HXA:Hid (Y.heap[A]? = some (BH qa qb)):=HR.out.2.1;clear HR HA0 HT0 HV HB
  by_cases h0:E = 0
  · subst h0
    obtain ⟨k,y,rfl,hky,hya⟩:=HIT.out L1 rfl HVY.out.2;obtain ⟨yk,hyk⟩:=qE y.i.kind;obtain ⟨yl,hyl⟩:=qE y.i.links;obtain ⟨ys,hys⟩:=qE y.i.size;obtain ⟨yt,hyt⟩:=qE y.i.stamp;have HQK:Hid ((yk,yl,ys,yt) = ((Nf.atR (pl L1) (k:Int)).kind,(Nf.atR (pl L1) (k:Int)).links,(Nf.atR (pl L1) (k:Int)).size,(Nf.atR (pl L1) (k:Int)).stamp)):=by
      show (yk,yl,ys,yt) = _;rw [hya,hyk,hyl,hys,hyt]
    obtain ⟨Z,hZ⟩:=qF (Y.setCell ⟨B,0,none⟩ (.slice p m q));have HTZ:Hid (Z.heap[B]? = some (BTk (.slice p m q) vo vs dn cl c)):=by show Z.heap[B]? = _;rw [hZ];exact set_at HTY.out 0 _
    have HVZ:Hid (TabAt (fun b=>w.heap.size < b) Z (.slice p m q) L1):=by show TabAt _ Z _ _;rw [hZ];exact ⟨HVY.out.1.1.setCell (by show ¬ w.heap.size < B;omega) _,fun x hx=>(HVY.out.1.2 x hx).setCell (by show ¬ w.heap.size < B;omega) _⟩
    have HZZ:Hid (Z.heap[w.heap.size]? = some BR0):=by show Z.heap[w.heap.size]? = _;rw [hZ];exact (Below.heap_setCell _ _ _ _ (by show w.heap.size≠B;omega)).trans HZ.out
    have HXZ:Hid (Z.heap[A]? = some (BH (k:Int) qb)):=by show Z.heap[A]? = _;rw [hZ];exact (Below.heap_setCell _ _ _ _ (by show A≠B;exact hAB)).trans HXA.out
    have HGZ:Hid (w.grownBy Z (some B)):=by show w.grownBy Z (some B);rw [hZ];exact gr_set (grown_of_below HBY.out _) (.inr rfl) _
    have hzlZ:=(Array.getElem?_eq_some_iff.1 HZZ.out).1;have hBZ:=(Array.getElem?_eq_some_iff.1 HTZ.out).1;have HC2:Hid (∀ V,Bw Z V->Calls Tryz.prog 93 #[.pointer (some ⟨B,0,none⟩),.agg #[.int .i64 (k:Int),.int .i64 qb]] V fun e w'=>e = .returned (VA yk yl ys yt)/\Bw V w'):=fun V h=>by
      rw [← hyk,← hyl,← hys,← hyt];exact attrOf_any _ vo vs dn cl c L1 B (k:Int) qb V ((h.block _ hBZ).trans HTZ.out) (HVZ.out.up h) hky rfl
    have HSA:Hid (∀ V:World,Bw Z V->V.cell? ⟨A,0,none⟩ = some (.int .i64 (k:Int))/\V.cell? ⟨A,1,none⟩ = some (.int .i64 qb)):=fun V h=>by
      obtain ⟨⟨a0,a1⟩,_⟩:=two_of HXZ.out;exact ⟨cell_step a0 h,cell_step a1 h⟩
    obtain ⟨t0,-,-,-,-,-,-,-,-,-,-,-,-,-,-⟩:=tk_of HTY.out;have tf:=tk_fr HTY.out 0;clear hyk hyl hys hyt hya hky HIT HNO;go_wp2_with fail;rw [← hZ];clear hZ t0 tf;obtain ⟨a0,a1⟩:=HSA.out Z (Below.refl _ _)
    go_region_with (go_at_call 93;refine (HC2.out _ (by first | exact Below.refl _ _ | exact bel_drew (Below.refl _ _))).mono ?_;rintro e w7 ⟨rfl,hb7⟩;have hb77:Bw Z w7:=(by first | exact hb7 | exact undrew hb7);have hz7:w7.heap[w.heap.size]? = some BR0:=(hb77.block _ hzlZ).trans HZZ.out;obtain ⟨g0,g1,g2,g3,g4,g5,g6,g7,g8,g9⟩:=rp_of hz7;have gg:=fr_at hz7;have HB7:Hid (w.grownBy w7 (some B)/\w7.heap[B]? = some (BTk (.slice p m q) vo vs dn cl c)/\TabAt (fun b=>w.heap.size < b) w7 (.slice p m q) L1):=⟨gr_up HGZ.out hb77,(hb77.block _ hBZ).trans HTZ.out,HVZ.out.up hb77⟩;obtain ⟨b0,b1⟩:=HSA.out w7 hb77;clear hb7 hz7 hb77)
    all_goals
      go_wp2
      (try simp only [Exit.inBlock,Exit.then])
      refine bodyPost_ret (v:=VRp 0 (k:Int) qb yk yl ys yt ⟨#[]⟩ (.slice none 0 0) 0) ?_ rfl ⟨.slice p m q,L1,yk,yl,ys,yt,rfl,?_,?_,HVY.out.2,⟨fun _=>HQK.out,fun h=>absurd rfl h⟩,?_⟩
      · rw [results_cell1 rfl]
        go_simp
      · repeat (with_reducible refine (Below.heap_setCell _ _ _ _ (show B ≠ w.heap.size from hBne)).trans ?_)
        exact HB7.out.2.1
      · exact setCells_tab (A:=w.heap.size) (S:=fun b=>w.heap.size < b) (by simp) (cV 0 (k:Int) qb yk yl ys yt) 0 _ HB7.out.2.2
      · repeat (with_reducible refine gr_set ?_ (.inl (by simp)) _)
        exact HB7.out.1
  · obtain ⟨rfl, rfl⟩ := HNO.out h0
    have hz:(E != 0) = true:=by simpa using h0
    have HE:Hid (E≠0):=h0;clear HIT HNO;go_wp2_with fail;refine (wrong_any E _).mono ?_;rintro e w7 ⟨rfl,hb7⟩;have HB7:Hid (w.grownBy w7 (some B)/\w7.heap[B]? = some (BTk (.slice ao n cap) vo vs dn cl c)/\TabAt (fun b=>w.heap.size < b) w7 (.slice p m q) L1):=⟨grown_of_below (HBY.out.trans (hb7.mono HBY.out.size)) _,(hb7.block _ (Array.getElem?_eq_some_iff.1 HTY.out).1).trans HTY.out,HVY.out.1.up hb7⟩;have HZ7:=qK hb7 HZ;obtain ⟨g0,g1,g2,g3,g4,g5,g6,g7,g8,g9⟩:=rp_of HZ7.out;have gg:=fr_at HZ7.out;clear hb7;go_wp2
    (try simp only [Exit.inBlock,Exit.then])
    refine bodyPost_ret (v:=VRp E 0 0 0 0 0 0 ⟨#[]⟩ (.slice none 0 0) 0) ?_ rfl ⟨.slice p m q,L1,0,0,0,0,rfl,?_,?_,HVY.out.2,⟨fun h=>absurd h HE.out,fun _=>rfl⟩,?_⟩
    · rw [results_cell1 rfl]
      go_simp
    · repeat (with_reducible refine (Below.heap_setCell _ _ _ _ (show B ≠ w.heap.size from hBne)).trans ?_)
      have hsel:Nf.sel E (.slice p m q) (.slice ao n cap) = .slice ao n cap:=if_neg HE.out
      first | (rw [hsel];exact HB7.out.2.1) | exact HB7.out.2.1 | (simp only [hsel];exact HB7.out.2.1)
    · exact setCells_tab (A:=w.heap.size) (S:=fun b=>w.heap.size < b) (by simp) (cV E 0 0 0 0 0 0) 0 _ HB7.out.2.2
    · repeat (with_reducible refine gr_set ?_ (.inl (by simp)) _)
      exact HB7.out.1
theorem setCells_ats {α:Type} {E:Enc α} {S:Nat->Prop} {A:Nat} {v:Value} {l:List α} (hA:¬ S A):∀ (vs:List Value) (o:Nat) (w:World),At E S w v l->At E S (w.setCells A o vs) v l
  | [],_,_,h=>h
  | _ :: vs,o,_,h=>setCells_ats hA vs (o + 1) _ (h.setCell hA _)
namespace Nf
def most (n:Int):Int:=min (max n 1) 64
noncomputable def lsE (L:List Ino) (c:Cal):Int:=if fndE L c.no c.gen 2 404 = 0 then Fo.pageErr (findI L c.no c.gen).ents (findI L c.no c.gen).next c.pl (most c.n) else fndE L c.no c.gen 2 404
noncomputable def lsP (L:List Ino) (c:Cal):List Ent:=if fndE L c.no c.gen 2 404 = 0 then Fo.page (findI L c.no c.gen).ents (findI L c.no c.gen).next c.pl (most c.n) else []
end Nf
theorem nlist_any {S : Nat → Prop} (vi vo vs : Value) (dn cl : Int) (c : Cal) (L : List Rw) (B : Nat) (w : World) (hB : w.heap[B]? = some (BTk vi vo vs dn cl c)) (hv : TabAt S w vi L) (hok : Sp.okN L) :
    Calls Tryz.prog 58 #[.pointer (some ⟨B,0,none⟩)] w fun e w'=>∃ p j q,e = .returned (VRp (Nf.lsE (pl L) c) 0 0 0 0 0 0 ⟨#[]⟩ (.slice p j q) 0)/\At EE (fun b=>w.heap.size < b) w' (.slice p j q) (Nf.lsP (pl L) c)/\Bw w w':=by
  have hBl:=(Array.getElem?_eq_some_iff.1 hB).1;obtain ⟨W,hW⟩:=qF (w.alloc BR0);have HB0:Hid _:=qB hW;have HA0:Hid _:=qC hW;have HT0:Hid (W.heap[B]? = some (BTk vi vo vs dn cl c)):=(HB0.out.block _ hBl).trans hB;have HV:Hid (TabAt S W vi L):=hv.up HB0.out;have hwW:w.heap.size < W.heap.size:=(Array.getElem?_eq_some_iff.1 HA0.out).1;have hBW:B < W.heap.size:=(Array.getElem?_eq_some_iff.1 HT0.out).1;obtain ⟨E,hE⟩:=qE (Nf.lsE (pl L) c);obtain ⟨D,hD⟩:=qE (Nf.lsP (pl L) c);rw [hE,hD];unfold Nf.lsE at hE;unfold Nf.lsP at hD;obtain ⟨fe,hfe⟩:=qE (Nf.fndE (pl L) c.no c.gen 2 404);have HF:Hid (Nf.fndE (pl L) c.no c.gen 2 404 = fe):=hfe;rw [hfe] at hE hD;have HOK:Hid (Sp.okN L):=hok;clear hv hB hfe hok;go_enter Tryz.func58,Tryz.ntmps58;go_wp2_with fail;rw [← hW];clear hW;refine (nfind_any vi vo vs dn cl c L B 2 404 W HT0.out HV.out (by decide)).mono ?_;rintro e w1 ⟨x,rfl,hxi,hxg,hb1⟩;rw [HF.out] at hxi ⊢;obtain ⟨Y,hY⟩:=qF (w1.alloc (BIx x));have bw1:Bw w1 Y:=by rw [hY];exact qG _ _
  have hbY:Bw W Y:=hb1.trans (bw1.mono hb1.size);have HBY:Hid (Bw w Y):=HB0.out.trans (hbY.mono HB0.out.size);have HZ:=qK hbY HA0;have HTY:=qK hbY HT0;have HXA:Hid _:=qC hY;have HG:Hid (GoodW Y x):=(hxg.imp (fun _ _ _=>trivial)).up bw1;have HXI:Hid (x.i = if fe = 0 then findI (pl L) c.no c.gen else zeroI):=hxi;have hzl:=(Array.getElem?_eq_some_iff.1 HZ.out).1;have hxl:=(Array.getElem?_eq_some_iff.1 HXA.out).1;have hne:w.heap.size≠w1.heap.size:=by have:=hb1.size;omega
  have hzl1:w.heap.size < w1.heap.size:=by have:=hb1.size;omega
  clear hb1 bw1 hbY hxg hxi HA0 HT0 HV
  by_cases h0:fe = 0
  · rw [if_pos h0] at hE hD
    have hxx:=HXI.out;rw [if_pos h0] at hxx;subst h0;rw [← hxx] at hE hD;obtain ⟨mn,hmn⟩:=qE (Nf.most c.n);rw [hmn] at hE hD;obtain ⟨Z,hZ⟩:=qF (Y.alloc (BD (.slice x.ep x.en x.ec) x.i.next));have bz:Bw Y Z:=by rw [hZ];exact qG _ _
    have HBZ:Hid (Bw w Z):=HBY.out.trans (bz.mono HBY.out.size);have hYs:Y.heap.size = w1.heap.size + 1:=by rw [hY];simp
    have HDZ:Hid (Z.heap[w1.heap.size + 1]? = some (BD (.slice x.ep x.en x.ec) x.i.next)):=by show Z.heap[w1.heap.size + 1]? = _;rw [← hYs,hZ];exact heap_alloc_new _ _
    have HTZ:Hid (Z.heap[B]? = some (BTk vi vo vs dn cl c)):=(bz.block _ (Array.getElem?_eq_some_iff.1 HTY.out).1).trans HTY.out;have HZZ:=qK bz HZ;have hzlZ:=(Array.getElem?_eq_some_iff.1 HZZ.out).1;have HSM:Hid (∀ y∈x.i.ents,y.1.size<=maxLen):=by
      show ∀ y∈x.i.ents,y.1.size<=maxLen;rw [hxx];exact Sp.okN_find HOK.out _ _
    have HC:Hid (∀ V,Bw Z V->Calls Tryz.prog 110 #[VD (.slice x.ep x.en x.ec) x.i.next,.int .i64 c.pl,.int .i64 mn] V fun e w'=>∃ p j q,e = .returned (.tuple #[.slice p j q,.int .i64 E])/\At EE (fun b=>w.heap.size < b) w' (.slice p j q) D/\Bw V w'):=fun V h=>by
      refine (page_any (.slice x.ep x.en x.ec) x.i.ents x.i.next c.pl mn V ((HG.out.up bz).up h).2.1.wide HSM.out).mono ?_;rintro e w' ⟨p,j,q,h1,h2,h3⟩;rw [hE] at h1;rw [hD] at h2;exact ⟨p,j,q,h1,h2.imp (fun b hb _=>by have h4:=h.size;omega),h3⟩
    have HSG:Hid (∀ V:World,Bw Z V->V.cell? ⟨w1.heap.size + 1,0,none⟩ = some (.slice x.ep x.en x.ec)/\V.cell? ⟨w1.heap.size + 1,1,none⟩ = some (.int .i64 x.i.next)/\V.cell? ⟨B,12,none⟩ = some (.int .i64 c.pl)/\V.cell? ⟨B,13,none⟩ = some (.int .i64 c.n)):=fun V h=>by
      obtain ⟨-,-,-,-,-,-,-,-,-,-,-,-,t12,t13,-⟩:=tk_of HTZ.out;have k0:=cell_at HDZ.out 0;have k1:=cell_at HDZ.out 1;simp at k0 k1;exact ⟨cell_step k0 h,cell_step k1 h,cell_step t12 h,cell_step t13 h⟩
    have HMN:Hid ((if 64 < (if c.n < 1 then 1 else c.n) then 64 else (if c.n < 1 then 1 else c.n)) = mn):=by
      show _ = _;rw [← hmn];unfold Nf.most;split <;> split <;> omega
    have k6:=cell_at HXA.out 6;have k7:=cell_at HXA.out 7;simp at k6 k7;clear hE hD hxx HXI hmn bz;have hcase:(c.n < 1/\mn = 1)∨(¬ c.n < 1/\64 < c.n/\mn = 64)∨(¬ c.n < 1/\¬ 64 < c.n/\mn = c.n):=by
      have h:=HMN.out;split at h <;> split at h <;> omega
    rcases hcase with ⟨hn1,hn2⟩ | ⟨hn1,hn3,hn2⟩ | ⟨hn1,hn3,hn2⟩
    all_goals
      subst hn2;go_wp2_with fail;rw [← hY,← hZ];clear hY hZ k6 k7 hYs
      go_region_held3 (fun V=>V.cell? ⟨w1.heap.size + 1,0,none⟩ = some (.slice x.ep x.en x.ec)/\V.cell? ⟨w1.heap.size + 1,1,none⟩ = some (.int .i64 x.i.next)/\V.cell? ⟨B,12,none⟩ = some (.int .i64 c.pl)/\V.cell? ⟨B,13,none⟩ = some (.int .i64 c.n)) (first | (refine HSG.out _ ?_;(repeat (first | with_reducible assumption | with_reducible exact Below.refl _ _ | with_reducible refine bel_drew ?_));done)) (first
        | (go_at_call 110;(try rw [HMN.out]);refine (HC.out _ (by first | exact Below.refl _ _ | exact bel_drew (Below.refl _ _))).mono ?_;rintro e w7 ⟨p,j,q,rfl,hd7,hb7⟩;have hb77:Bw Z w7:=(by first | exact hb7 | exact undrew hb7);clear hb7))
      all_goals
        have HB7:Hid (Bw w w7):=HBZ.out.trans (hb77.mono HBZ.out.size);have HD7:Hid (At EE (fun b=>w.heap.size < b) w7 (.slice p j q) D):=hd7;have HZ7:=qK hb77 HZZ;obtain ⟨g0,g1,g2,g3,g4,g5,g6,g7,g8,g9⟩:=rp_of HZ7.out;have gg:=fr_at HZ7.out;clear hb77 HC HSG hd7;go_wp2
        (try simp only [Exit.inBlock,Exit.then])
        refine bodyPost_ret (v:=VRp E 0 0 0 0 0 0 ⟨#[]⟩ (.slice p j q) 0) ?_ rfl ⟨p,j,q,rfl,?_,?_⟩
        · rw [results_cell1 rfl]
          go_simp
        · exact (setCells_ats (A:=w.heap.size) (S:=fun b=>w.heap.size < b) (by simp) [.int .i64 E,.int .i64 0,.int .i64 0,.int .i64 0,.int .i64 0,.int .i64 0,.int .i64 0,.string ⟨#[]⟩,.slice p j q,.int .i64 0] 0 _ HD7.out)
        · repeat (with_reducible refine Below.setCell ?_ (by simp) _)
          exact HB7.out
  · rw [if_neg h0] at hE hD
    subst hE;subst hD;have hz:(fe != 0) = true:=by simpa using h0
    clear HXI h0;go_wp2_with fail;rw [← hY];clear hY;refine (wrong_any fe _).mono ?_;rintro e w7 ⟨rfl,hb7⟩;have HB7:Hid (Bw w w7):=HBY.out.trans (hb7.mono HBY.out.size);have HZ7:=qK hb7 HZ;obtain ⟨g0,g1,g2,g3,g4,g5,g6,g7,g8,g9⟩:=rp_of HZ7.out;have gg:=fr_at HZ7.out;clear hb7;go_wp2
    (try simp only [Exit.inBlock,Exit.then])
    refine bodyPost_ret (v:=VRp fe 0 0 0 0 0 0 ⟨#[]⟩ (.slice none 0 0) 0) ?_ rfl ⟨none,0,0,rfl,At.nil,?_⟩
    · rw [results_cell1 rfl]
      go_simp
    · repeat (with_reducible refine Below.setCell ?_ (by simp) _)
      exact HB7.out
end Go.Proofs.YtneojimodomohaaGreat
namespace Go.Proofs.YtneojimodomohaaGreat.Os
open Go.ChangeShapes Go.WideShapes Go.ChangeAt Go.RowKit Go.Deep
theorem wpList_app {P:Program} {w w':World} {ops:Array Oper} {rest:List Oper} {o:Oper} {a:Act} {Q:Exit->Act->World->Prop} (hgd:o.guard = none) (s x:Operand) (t tn:TypeId)
    (ho:o.op = .call { callee:=.builtin .append,args:=#[s,x],argTypes:=#[t,tn] }) {v xv v':Value} (hv:a.eval s = v) (hxv:a.eval x = xv) (hr:∀ ty,(Builtin.append_ #[t,tn] ty #[v,xv]).run P w = .ok v' w')
    (h:wpList P ops Q rest (a.put o.dst v') w'):wpList P ops Q (o :: rest) a w :=
  wpList_plain hgd fun _ hK=>by
    unfold Oper.wp execOp;simp only [ho,resolve,invoke,builtin,Sem.run_bind,Sem.run_pure,Result.andThen_ok,List.map_toArray,List.map_cons,List.map_nil,hv,hxv,hr];exact hK _ _ h
theorem grow_nil (n:Nat) (hn:n<=4398046511104) (w:World):Calls Tryz.prog 196 #[.slice none 0 0,.int .i64 n] w fun e w'=>∃ v,e = .returned v/\Row EO w' w.heap.size 77 v []/\Bw w w':=by
  by_cases h0:n = 0
  · subst h0
    go_enter Tryz.func196,Tryz.ntmps196;go_wp2;go_ret;exact ⟨_,rfl,Row.nil _ _ _ _,Below.refl _ _⟩
  · obtain ⟨j0, hj, hy0, hy1, hy2⟩ := info_parts infoO
    have happ:=fun ty=>Lib.run_append_nil_zeros (P:=Tryz.prog) w 23 3 ty 77 j0 _ .i64 .i64 Tryz.underlying23 Tryz.underlying3 hj hy0 n (by omega) (by rw [hy1];decide) (by omega) (by rw [hy2];omega)
    have hge:=grownCap_ge w n 0 77;have hcm:grownCap w n 0 77<=maxLen:=grownCap_le_maxLen w n 0 77 (by unfold maxLen;omega);have hcs:(Builtin.zeroCells (Value.agg #[.int .i64 0,.int .i64 0,.int .i64 0,.int .i64 0]).cells n ++ Builtin.zeroCells (Value.agg #[.int .i64 0,.int .i64 0,.int .i64 0,.int .i64 0]).cells (grownCap w n 0 77 - n)).size = grownCap w n 0 77 * 4:=by
      rw [Array.size_append,size_zeroCells,size_zeroCells,show (Value.agg #[.int .i64 0,.int .i64 0,.int .i64 0,.int .i64 0]).cells.size = 4 from rfl];omega
    generalize (Builtin.zeroCells (Value.agg #[.int .i64 0,.int .i64 0,.int .i64 0,.int .i64 0]).cells n ++ Builtin.zeroCells (Value.agg #[.int .i64 0,.int .i64 0,.int .i64 0,.int .i64 0]).cells (grownCap w n 0 77 - n)) = cur at happ hcs;generalize grownCap w n 0 77 = C at happ hge hcm hcs;have hn0:0 < (n:Int):=by omega
    have HEND:Hid (Row EO (w.drew.alloc (.cells cur 77)) w.heap.size 77 (.slice (some ⟨w.heap.size,0,none⟩) 0 C) []):=.inr ⟨w.heap.size,C,cur,rfl,Nat.le_refl _,heap_alloc_new w.drew _,Nat.zero_le _,hcm,by rw [hcs];exact Nat.le_refl _,by simp [Enc.flat]⟩;unfold maxLen at hcm;have HAPP:Hid (∀ ty,(Builtin.append_ #[23,3] ty #[.slice none 0 0,.int .i64 n]).run Tryz.prog w = .ok (.slice (some ⟨w.heap.size,0,none⟩) n C) (w.drew.alloc (.cells cur 77))):=happ;clear hj hy0 hy1 hy2 h0 hcs happ;go_enter Tryz.func196,Tryz.ntmps196
    go_wp2_with (at_builtin;refine wpList_app rfl _ _ 23 3 rfl rfl rfl HAPP.out ?_)
    go_ret;exact ⟨_,rfl,HEND.out,⟨rfl,rfl,rfl,by simp,fun k hk=>Below.heap_alloc w.drew _ k hk⟩⟩
theorem cell_next {w w':World} {b j:Nat} {v:Value} (h:w.cell? ⟨b,j,none⟩ = some v) (hb:Bw w w') (hl:b < w.heap.size):w'.cell? ⟨b,j,none⟩ = some v:=(hb.cell (p:=⟨b,j,none⟩) hl).trans h
theorem concat_three (g:Nat) (v1 v2 v3:Value) (l1 l2 l3:List Opn) (w:World) (hg:g < w.heap.size) (c0:w.cell? ⟨g,0,none⟩ = some v1) (c1:w.cell? ⟨g,1,none⟩ = some v2) (c2:w.cell? ⟨g,2,none⟩ = some v3) (h1:AtW EO w v1 l1) (h2:AtW EO w v2 l2) (h3:AtW EO w v3 l3) (hl:l1.length + l2.length + l3.length<=2199023255552) :
    Calls Tryz.prog 166 #[.slice (some ⟨g,0,none⟩) 3 3] w fun e w'=>∃ u,e = .returned u/\Row EO w' w.heap.size 77 u (l1 ++ l2 ++ l3)/\Bw w w':=by
  have H1:Hid (At EO (fun b=>b < w.heap.size) w v1 l1):=h1.imp fun b _ hb=>hb
  have H2:Hid (At EO (fun b=>b < w.heap.size) w v2 l2):=h2.imp fun b _ hb=>hb
  have H3:Hid (At EO (fun b=>b < w.heap.size) w v3 l3):=h3.imp fun b _ hb=>hb
  obtain ⟨a1,q1,rfl,-,-⟩:=h1.open;obtain ⟨a2,q2,rfl,-,-⟩:=h2.open;obtain ⟨a3,q3,rfl,-,-⟩:=h3.open;clear h1 h2 h3;obtain ⟨n1,hn1⟩:=qE l1.length;obtain ⟨n2,hn2⟩:=qE l2.length;obtain ⟨n3,hn3⟩:=qE l3.length;rw [hn1,hn2,hn3] at hl;rw [hn1] at c0 H1;rw [hn2] at c1 H2;rw [hn3] at c2 H3;have HN:Hid (l1.length = n1/\l2.length = n2/\l3.length = n3):=⟨hn1,hn2,hn3⟩;clear hn1 hn2 hn3;obtain ⟨j0,hj,hy0,hy1,hy2⟩:=info_parts infoO;go_enter Tryz.func166,Tryz.ntmps166;go_wp2;refine wp_loop_rounds 4 ?_;rw [rounds_succ];go_wp2;rw [rounds_succ];go_wp2;rw [rounds_succ];go_wp2;rw [rounds_succ];go_wp2_with fail;rw [show (n1:Int) + (n2:Int) + (n3:Int) = ((n1 + n2 + n3:Nat):Int) by omega];refine (grow_nil (n1 + n2 + n3) (by omega) _).mono ?_;rintro e w1 ⟨u1,rfl,hr1,hb1⟩;have HB1:Hid (Bw w w1):=hb1;have HR1:Hid (Row EO w1 w.heap.size 77 u1 []):=hr1;have d0:=cell_next c0 hb1 hg;have H1':Hid (At EO (fun b=>b < w.heap.size) w1 (.slice a1 n1 q1) l1):=H1.out.up hb1;have hs1:=hb1.size;clear hb1 hr1 H1;go_wp2;refine wp_loop_rounds 4 ?_;rw [rounds_succ]
  go_wp2_with (at_builtin;refine wpList_row _ rfl _ _ 23 rfl EO (fun b=>b < w.heap.size) w.heap.size 77 j0 _ 32 Tryz.underlying23 hj hy0 hy1 hy2 rfl _ [] rfl HR1.out _ l1 rfl H1'.out (by have:=HN.out;unfold maxLen;simp only [List.length_nil];omega) (by have:=HN.out;simp only [List.length_nil];omega) (by omega) ?_;intro v7 w7 hrow7 hg7 hloc7)
  have HB7:Hid (Bw w w7):=HB1.out.grown hg7 hs1 (fun k hk=>(HR1.out.lt k hk).1);have HR7:Hid (Row EO w7 w.heap.size 77 v7 l1):=by show Row EO w7 w.heap.size 77 v7 l1;simpa using hrow7
  have d1:=cell_next c1 HB7.out hg;have H2':Hid (At EO (fun b=>b < w.heap.size) w7 (.slice a2 n2 q2) l2):=H2.out.up HB7.out;have hs7:=HB7.out.size;clear hrow7 hg7 hloc7 d0;rw [rounds_succ]
  go_wp2_with (at_builtin;refine wpList_row _ rfl _ _ 23 rfl EO (fun b=>b < w.heap.size) w.heap.size 77 j0 _ 32 Tryz.underlying23 hj hy0 hy1 hy2 rfl _ l1 rfl HR7.out _ l2 rfl H2'.out (by have:=HN.out;unfold maxLen;omega) (by have:=HN.out;omega) (by omega) ?_;intro v8 w8 hrow8 hg8 hloc8)
  have HB8:Hid (Bw w w8):=HB7.out.grown hg8 hs7 (fun k hk=>(HR7.out.lt k hk).1);have HR8:Hid (Row EO w8 w.heap.size 77 v8 (l1 ++ l2)):=hrow8;have d2:=cell_next c2 HB8.out hg;have H3':Hid (At EO (fun b=>b < w.heap.size) w8 (.slice a3 n3 q3) l3):=H3.out.up HB8.out;have hs8:=HB8.out.size;clear hrow8 hg8 hloc8 d1;rw [rounds_succ]
  go_wp2_with (at_builtin;refine wpList_row _ rfl _ _ 23 rfl EO (fun b=>b < w.heap.size) w.heap.size 77 j0 _ 32 Tryz.underlying23 hj hy0 hy1 hy2 rfl _ (l1 ++ l2) rfl HR8.out _ l3 rfl H3'.out (by have:=HN.out;unfold maxLen;rw [List.length_append];omega) (by have:=HN.out;rw [List.length_append];omega) (by omega) ?_;intro v9 w9 hrow9 hg9 hloc9)
  have HB9:Hid (Bw w w9):=HB8.out.grown hg9 hs8 (fun k hk=>(HR8.out.lt k hk).1);have HR9:Hid (Row EO w9 w.heap.size 77 v9 (l1 ++ l2 ++ l3)):=hrow9;clear hrow9 hg9 hloc9;rw [rounds_succ];go_wp2;go_ret;exact ⟨_,rfl,HR9.out,HB9.out⟩
end Go.Proofs.YtneojimodomohaaGreat.Os
