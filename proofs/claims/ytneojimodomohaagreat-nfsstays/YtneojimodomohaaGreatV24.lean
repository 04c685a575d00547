/- NCl, NUl, NLaw, as one. -/
import Derived.Test.YtneojimodomohaaGreatV23
set_option maxHeartbeats 8000000
set_option maxRecDepth 100000
namespace Go.Proofs.YtneojimodomohaaGreat
section
open Go.ChangeShapes Go.WideShapes Go.ChangeAt Go.RowKit Go.Deep It
namespace Nf
noncomputable def clE (L:List Ino) (O:List Os.Opn) (cl fd:Int):Int:=if Os.Op.closeErr O cl fd = 0 then reE L (Os.Op.closed O cl fd) (Os.Op.closeOf O cl fd) else Os.Op.closeErr O cl fd
noncomputable def clT (L:List Ino) (O:List Os.Opn) (cl fd:Int):List Ino:=if Os.Op.closeErr O cl fd = 0 then reT L (Os.Op.closed O cl fd) (Os.Op.closeOf O cl fd) else L
theorem Now.mono {n m:Nat} {w':World} {v u:Value} {T T':List Ino} (h:Now n w' v u T T') (hk:m<=n):Now m w' v u T T':=by
 rcases h with h | ⟨L',h1,h2⟩
 ·exact .inl h
 ·exact .inr ⟨L',h1.more hk,h2⟩
theorem Now.cells {n:Nat} {w':World} {v u:Value} {T T':List Ino} (h:Now n w' v u T T') {A:Nat} (hA:A < n) (vs:List Value) (o:Nat):Now n (w'.setCells A o vs) v u T T':=by
 rcases h with h | ⟨L',h1,h2⟩
 ·exact .inl h
 ·exact .inr ⟨L',setCells_tab (by omega) vs o _ h1,h2⟩
end Nf
theorem tab_cell {S:Nat->Prop} {w:World} {v:Value} {L:List Rw} (h:TabAt S w v L) {p:Addr} (hp:¬ S p.block) (u:Value):TabAt S (w.setCell p u) v L:=⟨h.1.setCell hp u,fun x hx=>(h.2 x hx).setCell hp u⟩
theorem nclose_any {S : Nat → Prop} (vi vo : Value) (sp : Option Addr) (sn sc : Nat) (dn cl : Int) (c : Cal) (L : List Rw) (B : Nat) (w : World) (hB : w.heap[B]? = some (BTk vi vo (.slice sp sn sc) dn cl c)) (hv : TabAt S w vi L) (hSB : ¬ S B) (O : List Os.Opn) (ho : AtW Os.EO w vo O) (hn : Os.Op.closeErr O cl c.n = 0 → names (pl L) (Os.Op.closeOf O cl c.n).1 (Os.Op.closeOf O cl c.n).2 = true) :
    Calls Tryz.prog 60 #[.pointer (some ⟨B,0,none⟩)] w fun e w'=>∃ u uo,e = .returned (VBad (Nf.clE (pl L) O cl c.n))/\w'.heap[B]? = some (BTk u (Nf.sel (Os.Op.closeErr O cl c.n) uo vo) (.slice sp sn sc) dn cl c)/\Nf.Now (w.heap.size + 1) w' vi u (pl L) (Nf.clT (pl L) O cl c.n)/\Nf.when (Os.Op.closeErr O cl c.n) (At Os.EO (fun b=>w.heap.size < b) w' uo (Os.Op.closed O cl c.n))/\w.grownBy w' (some B):=by
  have hBl:=(Array.getElem?_eq_some_iff.1 hB).1;obtain ⟨W,hW⟩:=qF (w.alloc BR0);have HB0:Hid _:=qB hW;have HA0:Hid _:=qC hW;have HT0:Hid (W.heap[B]? = some (BTk vi vo (.slice sp sn sc) dn cl c)):=(HB0.out.block _ hBl).trans hB;have HV:Hid (TabAt S W vi L):=hv.up HB0.out;have HO:Hid (AtW Os.EO W vo O):=ho.up HB0.out;have hwW:w.heap.size < W.heap.size:=(Array.getElem?_eq_some_iff.1 HA0.out).1;have hBW:B < W.heap.size:=(Array.getElem?_eq_some_iff.1 HT0.out).1;have hBne:B≠w.heap.size:=by omega
  obtain ⟨oo,oc,hso,-,-⟩:=ho.open;obtain ⟨om,hom⟩:=qE O.length;rw [hom] at hso;subst hso;obtain ⟨-,t1,-,-,t4,-,-,-,-,-,-,-,-,t13,-⟩:=tk_of HT0.out;have HSG:Hid (∀ V:World,Bw W V->V.cell? ⟨B,1,none⟩ = some (.slice oo om oc)/\V.cell? ⟨B,4,none⟩ = some (.int .i64 cl)/\V.cell? ⟨B,13,none⟩ = some (.int .i64 c.n)):=fun V h=>⟨cell_step t1 h,cell_step t4 h,cell_step t13 h⟩
  clear hv hB hom ho t1 t4 t13;obtain ⟨E,hE⟩:=qE (Os.Op.closeErr O cl c.n);obtain ⟨⟨qa,qb⟩,hq⟩:=qE (Os.Op.closeOf O cl c.n);obtain ⟨O2,hO2⟩:=qE (Os.Op.closed O cl c.n);obtain ⟨E2,hE2⟩:=qE (Nf.clE (pl L) O cl c.n);obtain ⟨T2,hT2⟩:=qE (Nf.clT (pl L) O cl c.n);rw [hE2,hT2,hE,hO2];unfold Nf.clE at hE2;unfold Nf.clT at hT2;rw [hE,hO2,hq] at hE2 hT2;rw [hE,hq] at hn;have HNM:Hid (E = 0->names (pl L) qa qb = true):=hn;have HE2:Hid ((if E = 0 then Nf.reE (pl L) O2 (qa,qb) else E) = E2):=hE2;have HT2:Hid ((if E = 0 then Nf.reT (pl L) O2 (qa,qb) else pl L) = T2):=hT2;have HC:Hid (∀ V,Bw W V->Calls Tryz.prog 112 #[.slice oo om oc,.int .i64 cl,.int .i64 c.n] V fun e w'=>∃ p m q,e = .returned (.tuple #[.slice p m q,.agg #[.int .i64 qa,.int .i64 qb],.int .i64 E])/\At Os.EO (fun b=>V.heap.size<=b) w' (.slice p m q) O2/\Bw V w'):=fun V h=>by
    have h1:=Os.close_any (.slice oo om oc) O cl c.n V (HO.out.up h);rw [hE,hq,hO2] at h1;exact h1
  clear hE hq hO2 hE2 hT2 hn HO;go_enter Tryz.func60,Tryz.ntmps60;go_wp2_with fail;rw [← hW];clear hW;have HB01:Hid (Bw W (W.alloc (BH 0 0))):=qG _ _;have HB02:Hid (Bw W (W.drew.alloc (BH 0 0))):=(bel_drew (Below.refl _ _)).alloc (Nat.le_refl _) _;apply cut_in
  · intro hK
    go_region_held3 (fun V=>V.cell? ⟨B,1,none⟩ = some (.slice oo om oc)/\V.cell? ⟨B,4,none⟩ = some (.int .i64 cl)/\V.cell? ⟨B,13,none⟩ = some (.int .i64 c.n)) (first | exact HSG.out _ (by (repeat (first | with_reducible assumption | with_reducible exact Below.refl _ _ | with_reducible refine bel_drew ?_ | with_reducible refine Below.setCell ?_ (by first | exact Nat.le_refl _ | assumption) _ | with_reducible refine Below.alloc ?_ (by first | exact Nat.le_refl _ | assumption) _)))) (first
      | (go_at_call 112; refine (HC.out _ (by first | exact Below.refl _ _ | exact bel_drew (Below.refl _ _) | exact HB01.out | exact HB02.out | exact bel_drew HB01.out)).mono ?_; rintro e w5 ⟨p, m, q, rfl, ht5, hb5⟩; have hb55 : Bw W w5 := (by first | exact hb5 | exact undrew hb5 | exact HB02.out.trans (hb5.mono HB02.out.size) | exact HB01.out.trans ((undrew hb5).mono HB01.out.size) | exact HB01.out.trans (hb5.mono HB01.out.size)); have h5s : W.heap.size ≤ w5.heap.size := hb55.size; (first
        | (have hz5:w5.heap[W.heap.size]? = some (BH 0 0):=(by first | exact (hb5.block _ (by simp)).trans (heap_alloc_new W.drew _) | exact (hb5.block _ (by show _ < Array.size _;simp)).trans (heap_alloc_new W _));have f0:=cell_at hz5 0;have f1:=cell_at hz5 1;have ff:=fr_at hz5;have HZ5:Hid (w5.heap[W.heap.size]? = some (BH 0 0)):=hz5;have HTB:Hid (At Os.EO (fun b=>W.heap.size < b) w5 (.slice p m q) O2):=ht5.imp (fun b hb _=>by simp at hb;omega);clear ht5;clear hz5)
        | (have HTB:Hid (At Os.EO (fun b=>W.heap.size<=b) w5 (.slice p m q) O2):=ht5.imp (fun b hb _=>by first | exact hb | (simp at hb;omega));clear ht5));clear hb5))
    all_goals first
      | (obtain ⟨Y, hY⟩ : ∃ Y, Y = w5.alloc (BH qa qb) := ⟨_, rfl⟩
         rw [← hY];have hYB:Bw W Y:=by rw [hY];exact hb55.alloc hb55.size _
         obtain ⟨A,hA⟩:=qF w5.heap.size;have hYX:Y.heap[A]? = some (BH qa qb):=by rw [hY,hA];exact heap_alloc_new _ _
         have hAw:W.heap.size<=A:=by rw [hA];exact h5s
         have hYT:At Os.EO (fun b=>w.heap.size < b) Y (.slice p m q) O2:=by rw [hY];exact (HTB.out.imp (fun b hb _=>Nat.lt_of_lt_of_le hwW hb)).up (qG _ _)
         rw [← hA];clear hA hY)
      | (obtain ⟨Y, hY⟩ : ∃ Y, Y = ((w5.setCell ⟨W.heap.size, 0, none⟩ (.int .i64 qa)).setCell ⟨W.heap.size, 1, none⟩ (.int .i64 qb)) := ⟨_, rfl⟩
         rw [← hY];have hYe:Y = w5.setCells W.heap.size 0 ([.int .i64 qa,.int .i64 qb]):=hY;have hYB:Bw W Y:=by rw [hYe];exact setCells_below (Nat.le_refl _) _ _ _ hb55
         obtain ⟨A,hA⟩:=qF W.heap.size;have hYX:Y.heap[A]? = some (BH qa qb):=by rw [hYe,hA];exact setCells_at ([.int .i64 qa,.int .i64 qb]) HZ5.out rfl
         have hAw:W.heap.size<=A:=by rw [hA];exact Nat.le_refl _
         have hYT:At Os.EO (fun b=>w.heap.size < b) Y (.slice p m q) O2:=by rw [hYe];exact (setCells_ats (fun h=>Nat.lt_irrefl _ h) _ _ _ HTB.out).imp (fun b hb _=>Nat.lt_trans hwW hb)
         rw [← hA];clear hA hY hYe f0 f1 ff HZ5)
    all_goals
      have HR:Hid (Bw W Y/\Y.heap[A]? = some (BH qa qb)/\W.heap.size<=A/\At Os.EO (fun b=>w.heap.size < b) Y (.slice p m q) O2):=⟨hYB,hYX,hAw,hYT⟩;clear hYB hYX hAw hYT HTB;revert HR;revert A Y q m p;exact hK.out
  intro p m q Y A HR;clear HSG HB01 HB02 HC;have HBY:Hid (Bw w Y):=HB0.out.trans (HR.out.1.mono HB0.out.size);have HZ:Hid (Y.heap[w.heap.size]? = some BR0):=(HR.out.1.block _ hwW).trans HA0.out;have HTY:Hid (Y.heap[B]? = some (BTk vi (.slice oo om oc) (.slice sp sn sc) dn cl c)):=(HR.out.1.block _ hBW).trans HT0.out;have HVY:Hid (TabAt S Y vi L):=HV.out.up HR.out.1;have HOY:Hid (At Os.EO (fun b=>w.heap.size < b) Y (.slice p m q) O2):=HR.out.2.2.2;have hzl:=(Array.getElem?_eq_some_iff.1 HZ.out).1;have hAl:=(Array.getElem?_eq_some_iff.1 HR.out.2.1).1;have hAne:w.heap.size≠A:=by have:=HR.out.2.2.1;omega
  have hAB:A≠B:=by have:=HR.out.2.2.1;omega
  have HXA:Hid (Y.heap[A]? = some (BH qa qb)):=HR.out.2.1;clear HR HA0 HT0 HV
  by_cases h0:E = 0
  · subst h0
    have hN:=HNM.out rfl;have hE2:=HE2.out;have hT2:=HT2.out;rw [if_pos rfl] at hE2 hT2;obtain ⟨Z,hZ⟩:=qF (Y.setCell ⟨B,1,none⟩ (.slice p m q));have HTZ:Hid (Z.heap[B]? = some (BTk vi (.slice p m q) (.slice sp sn sc) dn cl c)):=by show Z.heap[B]? = _;rw [hZ];exact set_at HTY.out 1 _
    have HOZ:Hid (At Os.EO (fun b=>w.heap.size < b) Z (.slice p m q) O2):=by show At _ _ Z _ _;rw [hZ];exact HOY.out.setCell (by show ¬ w.heap.size < B;omega) _
    have HVZ:Hid (TabAt S Z vi L):=by show TabAt _ Z _ _;rw [hZ];exact tab_cell HVY.out (p:=⟨B,1,none⟩) hSB _
    have HZZ:Hid (Z.heap[w.heap.size]? = some BR0):=by show Z.heap[w.heap.size]? = _;rw [hZ];exact (Below.heap_setCell _ _ _ _ (by show w.heap.size≠B;omega)).trans HZ.out
    have HXZ:Hid (Z.heap[A]? = some (BH qa qb)):=by show Z.heap[A]? = _;rw [hZ];exact (Below.heap_setCell _ _ _ _ (by show A≠B;exact hAB)).trans HXA.out
    have HGZ:Hid (w.grownBy Z (some B)):=by show w.grownBy Z (some B);rw [hZ];exact gr_set (grown_of_below HBY.out _) (.inr rfl) _
    have hzlZ:=(Array.getElem?_eq_some_iff.1 HZZ.out).1;have HCR:Hid (Calls Tryz.prog 106 #[.pointer (some ⟨B,0,none⟩),.agg #[.int .i64 qa,.int .i64 qb]] Z fun e w'=>∃ u,e = .returned (VBad E2)/\w'.heap[B]? = some (BTk u (.slice p m q) (.slice sp sn sc) dn cl c)/\Nf.Now (Z.heap.size + 1) w' vi u (pl L) T2/\Z.grownBy w' (some B)):=by
      have h1:=nrelease_any vi (.slice p m q) sp sn sc dn cl c L B qa qb Z HTZ.out HVZ.out O2 HOZ.out.wide hN;rw [hE2,hT2] at h1;exact h1
    obtain ⟨⟨a0,a1⟩,_⟩:=two_of HXA.out;obtain ⟨-,t1,-,-,-,-,-,-,-,-,-,-,-,-,-⟩:=tk_of HTY.out;have tf:=tk_fr HTY.out 1;have HXB:Hid (∃ a0:Z.cell? ⟨A,0,none⟩ = some (.int .i64 qa),Z.cell? ⟨A,1,none⟩ = some (.int .i64 qb)):=by
      obtain ⟨⟨b0,b1⟩,_⟩:=two_of HXZ.out;exact ⟨b0,b1⟩
    clear hE2 hT2 HE2 HT2 HNM hN HVZ HXZ;go_wp2_with fail;rw [← hZ];clear hZ t1 tf a0 a1;refine HCR.out.mono ?_;rintro e w7 ⟨u,rfl,hB7,hN7,hg7⟩;have HB7:Hid (w7.heap[B]? = some (BTk u (.slice p m q) (.slice sp sn sc) dn cl c)):=hB7;have HN7:Hid (Nf.Now (w.heap.size + 1) w7 vi u (pl L) T2):=hN7.mono (by omega);have HO7:Hid (At Os.EO (fun b=>w.heap.size < b) w7 (.slice p m q) O2):=HOZ.out.grown hg7 (fun g e=>by cases e;omega);have HG7:Hid (w.grownBy w7 (some B)):=grown_trans HGZ.out hg7;have HZ7:Hid (w7.heap[w.heap.size]? = some BR0):=(hg7.block _ hzlZ (by simp;omega)).trans HZZ.out;obtain ⟨g0,g1,g2,g3,g4,g5,g6,g7,g8,g9⟩:=rp_of HZ7.out;have gg:=fr_at HZ7.out;clear hB7 hN7 hg7 HCR;go_wp2
    (try simp only [Exit.inBlock,Exit.then])
    refine bodyPost_ret (v:=VBad E2) ?_ rfl ⟨u,.slice p m q,rfl,?_,?_,fun _=>?_,?_⟩
    · rw [results_cell1 rfl]
      go_simp
    · repeat (with_reducible refine (Below.heap_setCell _ _ _ _ (show B ≠ w.heap.size from hBne)).trans ?_)
      exact HB7.out
    · exact HN7.out.cells (A:=w.heap.size) (Nat.lt_succ_self _) (cV E2 0 0 0 0 0 0) 0
    · exact setCells_ats (A:=w.heap.size) (S:=fun b=>w.heap.size < b) (by simp) (cV E2 0 0 0 0 0 0) 0 _ HO7.out
    · repeat (with_reducible refine gr_set ?_ (.inl (Nat.le_refl w.heap.size)) _)
      exact HG7.out
  · have hE2 := HE2.out
    have hT2:=HT2.out;rw [if_neg h0] at hE2 hT2;subst hE2;subst hT2;have hz:(E != 0) = true:=by simpa using h0
    have HE:Hid (E≠0):=h0;clear HE2 HT2 HNM;go_wp2_with fail;refine (wrong_any E _).mono ?_;rintro e w7 ⟨rfl,hb7⟩;have HB7:Hid (w.grownBy w7 (some B)/\w7.heap[B]? = some (BTk vi (.slice oo om oc) (.slice sp sn sc) dn cl c)):=⟨grown_of_below (HBY.out.trans (hb7.mono HBY.out.size)) _,(hb7.block _ (Array.getElem?_eq_some_iff.1 HTY.out).1).trans HTY.out⟩;have HZ7:=qK hb7 HZ;obtain ⟨g0,g1,g2,g3,g4,g5,g6,g7,g8,g9⟩:=rp_of HZ7.out;have gg:=fr_at HZ7.out;clear hb7;go_wp2
    (try simp only [Exit.inBlock,Exit.then])
    refine bodyPost_ret (v:=VBad E) ?_ rfl ⟨vi,.slice none 0 0,rfl,?_,.inl ⟨rfl,rfl⟩,fun h=>absurd h HE.out,?_⟩
    · rw [results_cell1 rfl]
      go_simp
    · repeat (with_reducible refine (Below.heap_setCell _ _ _ _ (show B ≠ w.heap.size from hBne)).trans ?_)
      rw [show Nf.sel E (.slice none 0 0) (.slice oo om oc) = .slice oo om oc from if_neg HE.out];exact HB7.out.2
    · repeat (with_reducible refine gr_set ?_ (.inl (Nat.le_refl w.heap.size)) _)
      exact HB7.out.1
namespace Nf
noncomputable def unE (L:List Ino) (O:List Os.Opn) (a b:Int) (s:ByteArray) (st:Int):Int:=if Sp.ulE (Sp.chk Sp.isSp) L a b s st = 0 then reE (Sp.ulT (Sp.chk Sp.isSp) L a b s st) O (Sp.ulH (Sp.chk Sp.isSp) L a b s st) else Sp.ulE (Sp.chk Sp.isSp) L a b s st
noncomputable def unT (L:List Ino) (O:List Os.Opn) (a b:Int) (s:ByteArray) (st:Int):List Ino:=if Sp.ulE (Sp.chk Sp.isSp) L a b s st = 0 then reT (Sp.ulT (Sp.chk Sp.isSp) L a b s st) O (Sp.ulH (Sp.chk Sp.isSp) L a b s st) else L
end Nf
theorem nunlink_any {S : Nat → Prop} (vi vo : Value) (sp : Option Addr) (sn sc : Nat) (dn cl : Int) (c : Cal) (L : List Rw) (B : Nat) (w : World) (hB : w.heap[B]? = some (BTk vi vo (.slice sp sn sc) dn cl c)) (hv : TabAt S w vi L) (hSB : ¬ S B) (O : List Os.Opn) (ho : At Os.EO S w vo O) (hok : Sp.okN L) (hs : c.nm.size ≤ maxLen) (hn : Sp.ulE (Sp.chk Sp.isSp) (pl L) c.no c.gen c.nm dn = 0 → names (Sp.ulT (Sp.chk Sp.isSp) (pl L) c.no c.gen c.nm dn) (Sp.ulH (Sp.chk Sp.isSp) (pl L) c.no c.gen c.nm dn).1 (Sp.ulH (Sp.chk Sp.isSp) (pl L) c.no c.gen c.nm dn).2 = true) :
    Calls Tryz.prog 55 #[.pointer (some ⟨B,0,none⟩)] w fun e w'=>∃ u,e = .returned (VBad (Nf.unE (pl L) O c.no c.gen c.nm dn))/\w'.heap[B]? = some (BTk u vo (.slice sp sn sc) dn cl c)/\Nf.Now (w.heap.size + 1) w' vi u (pl L) (Nf.unT (pl L) O c.no c.gen c.nm dn)/\w.grownBy w' (some B):=by
  have hBl:=(Array.getElem?_eq_some_iff.1 hB).1;obtain ⟨W,hW⟩:=qF (w.alloc BR0);have HB0:Hid _:=qB hW;have HA0:Hid _:=qC hW;have HT0:Hid (W.heap[B]? = some (BTk vi vo (.slice sp sn sc) dn cl c)):=(HB0.out.block _ hBl).trans hB;have HV:Hid (TabAt S W vi L):=hv.up HB0.out;have HO:Hid (At Os.EO S W vo O):=ho.up HB0.out;have hwW:w.heap.size < W.heap.size:=(Array.getElem?_eq_some_iff.1 HA0.out).1;have hBW:B < W.heap.size:=(Array.getElem?_eq_some_iff.1 HT0.out).1;have hBne:B≠w.heap.size:=by omega
  obtain ⟨oo,oc,hso,-,-⟩:=ho.open;obtain ⟨om,hom⟩:=qE O.length;rw [hom] at hso;subst hso;obtain ⟨ao,cap,hsi,-,-⟩:=hv.open;obtain ⟨n,hn'⟩:=qE L.length;rw [hn'] at hsi;subst hsi;obtain ⟨t0,-,-,t3,-,-,t6,t7,-,-,t10,-,-,-,-⟩:=tk_of HT0.out;have HSG:Hid (∀ V:World,Bw W V->V.cell? ⟨B,0,none⟩ = some (.slice ao n cap)/\V.cell? ⟨B,3,none⟩ = some (.int .i64 dn)/\V.cell? ⟨B,6,none⟩ = some (.int .i64 c.no)/\V.cell? ⟨B,7,none⟩ = some (.int .i64 c.gen)/\V.cell? ⟨B,10,none⟩ = some (.string c.nm)):=fun V h=>⟨cell_step t0 h,cell_step t3 h,cell_step t6 h,cell_step t7 h,cell_step t10 h⟩
  clear hv hB hom ho hn' t0 t3 t6 t7 t10;obtain ⟨E2,hE2⟩:=qE (Nf.unE (pl L) O c.no c.gen c.nm dn);obtain ⟨T2,hT2⟩:=qE (Nf.unT (pl L) O c.no c.gen c.nm dn);rw [hE2,hT2];unfold Nf.unE at hE2;unfold Nf.unT at hT2;obtain ⟨E,hE⟩:=qE (Sp.ulE (Sp.chk Sp.isSp) (pl L) c.no c.gen c.nm dn);obtain ⟨⟨qa,qb⟩,hq⟩:=qE (Sp.ulH (Sp.chk Sp.isSp) (pl L) c.no c.gen c.nm dn);obtain ⟨T,hT⟩:=qE (Sp.ulT (Sp.chk Sp.isSp) (pl L) c.no c.gen c.nm dn);rw [hE,hT,hq] at hE2 hT2 hn;have HNM:Hid (E = 0->names T qa qb = true):=hn;have HE2:Hid ((if E = 0 then Nf.reE T O (qa,qb) else E) = E2):=hE2;have HC:Hid (∀ V,Bw W V->Calls Tryz.prog 105 #[.slice ao n cap,.agg #[.int .i64 c.no,.int .i64 c.gen],.string c.nm,.int .i64 dn] V fun e w'=>∃ p m q L',e = .returned (.tuple #[.slice p m q,.agg #[.int .i64 qa,.int .i64 qb],.int .i64 E])/\(TabAt (fun b=>V.heap.size<=b) w' (.slice p m q) L'/\pl L' = T)/\Bw V w'):=fun V h=>by
    refine (sunlink_any scheck_any isSp_means _ L c.no c.gen c.nm dn V (HV.out.up h) hok hs).mono ?_;rintro e w' ⟨u,L',h1,h2,h3,h4⟩;rw [hE,hq] at h1;rw [hT] at h3;obtain ⟨p4,z4,hu,-,-⟩:=h2.open;subst hu;exact ⟨p4,L'.length,z4,L',h1,⟨h2,h3⟩,h4⟩
  obtain ⟨T0,hT0⟩:=qE (pl L);rw [hT0] at hT2 ⊢;have HT2:Hid ((if E = 0 then Nf.reT T O (qa,qb) else T0) = T2):=hT2;clear hE hq hT hE2 hT2 hn hok hs hT0;go_enter Tryz.func55,Tryz.ntmps55;go_wp2_with fail;rw [← hW];clear hW;have HB01:Hid (Bw W (W.alloc (BH 0 0))):=qG _ _;have HB02:Hid (Bw W (W.drew.alloc (BH 0 0))):=(bel_drew (Below.refl _ _)).alloc (Nat.le_refl _) _;apply cut_in
  · intro hK
    go_region_held3 (fun V=>V.cell? ⟨B,0,none⟩ = some (.slice ao n cap)/\V.cell? ⟨B,3,none⟩ = some (.int .i64 dn)/\V.cell? ⟨B,6,none⟩ = some (.int .i64 c.no)/\V.cell? ⟨B,7,none⟩ = some (.int .i64 c.gen)/\V.cell? ⟨B,10,none⟩ = some (.string c.nm)) (first | exact HSG.out _ (by (repeat (first | with_reducible assumption | with_reducible exact Below.refl _ _ | with_reducible refine bel_drew ?_ | with_reducible refine Below.setCell ?_ (by first | exact Nat.le_refl _ | assumption) _ | with_reducible refine Below.alloc ?_ (by first | exact Nat.le_refl _ | assumption) _)))) (first
      | (go_at_call 105; refine (HC.out _ (by first | exact Below.refl _ _ | exact bel_drew (Below.refl _ _) | exact HB01.out | exact HB02.out | exact bel_drew HB01.out)).mono ?_; rintro e w5 ⟨p, m, q, L1, rfl, ht5, hb5⟩; have HT5 : Hid (pl L1 = T) := ht5.2; have hb55 : Bw W w5 := (by first | exact hb5 | exact undrew hb5 | exact HB02.out.trans (hb5.mono HB02.out.size) | exact HB01.out.trans ((undrew hb5).mono HB01.out.size) | exact HB01.out.trans (hb5.mono HB01.out.size)); have h5s : W.heap.size ≤ w5.heap.size := hb55.size; (first
        | (have hz5:w5.heap[W.heap.size]? = some (BH 0 0):=(by first | exact (hb5.block _ (by simp)).trans (heap_alloc_new W.drew _) | exact (hb5.block _ (by show _ < Array.size _;simp)).trans (heap_alloc_new W _));have f0:=cell_at hz5 0;have f1:=cell_at hz5 1;have ff:=fr_at hz5;have HZ5:Hid (w5.heap[W.heap.size]? = some (BH 0 0)):=hz5;have HTB:Hid (TabAt (fun b=>W.heap.size < b) w5 (.slice p m q) L1):=ht5.1.imp (fun b hb _=>by simp at hb;omega);clear ht5;clear hz5)
        | (have HTB:Hid (TabAt (fun b=>W.heap.size<=b) w5 (.slice p m q) L1):=ht5.1.imp (fun b hb _=>by first | exact hb | (simp at hb;omega));clear ht5));clear hb5))
    all_goals first
      | (obtain ⟨Y, hY⟩ : ∃ Y, Y = w5.alloc (BH qa qb) := ⟨_, rfl⟩
         rw [← hY];have hYB:Bw W Y:=by rw [hY];exact hb55.alloc hb55.size _
         obtain ⟨A,hA⟩:=qF w5.heap.size;have hYX:Y.heap[A]? = some (BH qa qb):=by rw [hY,hA];exact heap_alloc_new _ _
         have hAw:W.heap.size<=A:=by rw [hA];exact h5s
         have hYT:TabAt (fun b=>w.heap.size < b) Y (.slice p m q) L1:=by rw [hY];exact (HTB.out.imp (fun b hb _=>Nat.lt_of_lt_of_le hwW hb)).up (qG _ _)
         rw [← hA];clear hA hY)
      | (obtain ⟨Y, hY⟩ : ∃ Y, Y = ((w5.setCell ⟨W.heap.size, 0, none⟩ (.int .i64 qa)).setCell ⟨W.heap.size, 1, none⟩ (.int .i64 qb)) := ⟨_, rfl⟩
         rw [← hY];have hYe:Y = w5.setCells W.heap.size 0 ([.int .i64 qa,.int .i64 qb]):=hY;have hYB:Bw W Y:=by rw [hYe];exact setCells_below (Nat.le_refl _) _ _ _ hb55
         obtain ⟨A,hA⟩:=qF W.heap.size;have hYX:Y.heap[A]? = some (BH qa qb):=by rw [hYe,hA];exact setCells_at ([.int .i64 qa,.int .i64 qb]) HZ5.out rfl
         have hAw:W.heap.size<=A:=by rw [hA];exact Nat.le_refl _
         have hYT:TabAt (fun b=>w.heap.size < b) Y (.slice p m q) L1:=by rw [hYe];exact (setCells_tab (fun h=>Nat.lt_irrefl _ h) _ _ _ HTB.out).imp (fun b hb _=>Nat.lt_trans hwW hb)
         rw [← hA];clear hA hY hYe f0 f1 ff HZ5)
    all_goals
      have HR:Hid (Bw W Y/\Y.heap[A]? = some (BH qa qb)/\W.heap.size<=A/\TabAt (fun b=>w.heap.size < b) Y (.slice p m q) L1/\pl L1 = T):=⟨hYB,hYX,hAw,hYT,HT5.out⟩;clear hYB hYX hAw hYT HT5 HTB;revert HR;revert A Y L1 q m p;exact hK.out
  intro p m q L1 Y A HR;clear HSG HB01 HB02 HC;have HBY:Hid (Bw w Y):=HB0.out.trans (HR.out.1.mono HB0.out.size);have HZ:Hid (Y.heap[w.heap.size]? = some BR0):=(HR.out.1.block _ hwW).trans HA0.out;have HTY:Hid (Y.heap[B]? = some (BTk (.slice ao n cap) (.slice oo om oc) (.slice sp sn sc) dn cl c)):=(HR.out.1.block _ hBW).trans HT0.out;have HVY:Hid (TabAt (fun b=>w.heap.size < b) Y (.slice p m q) L1/\pl L1 = T):=HR.out.2.2.2;have HOY:Hid (At Os.EO S Y (.slice oo om oc) O):=HO.out.up HR.out.1;have hzl:=(Array.getElem?_eq_some_iff.1 HZ.out).1;have hAl:=(Array.getElem?_eq_some_iff.1 HR.out.2.1).1;have hAne:w.heap.size≠A:=by have:=HR.out.2.2.1;omega
  have hAB:A≠B:=by have:=HR.out.2.2.1;omega
  have HXA:Hid (Y.heap[A]? = some (BH qa qb)):=HR.out.2.1;clear HR HA0 HT0 HV HO
  by_cases h0:E = 0
  · subst h0
    have hN:=HNM.out rfl;have hE2:=HE2.out;have hT2:=HT2.out;rw [if_pos rfl] at hE2 hT2;obtain ⟨Z,hZ⟩:=qF (Y.setCell ⟨B,0,none⟩ (.slice p m q));have HTZ:Hid (Z.heap[B]? = some (BTk (.slice p m q) (.slice oo om oc) (.slice sp sn sc) dn cl c)):=by show Z.heap[B]? = _;rw [hZ];exact set_at HTY.out 0 _
    have HOZ:Hid (At Os.EO S Z (.slice oo om oc) O):=by show At _ _ Z _ _;rw [hZ];exact HOY.out.setCell (p:=⟨B,0,none⟩) hSB _
    have HVZ:Hid (TabAt (fun b=>w.heap.size < b) Z (.slice p m q) L1):=by show TabAt _ Z _ _;rw [hZ];exact tab_cell HVY.out.1 (by show ¬ w.heap.size < B;omega) _
    have HZZ:Hid (Z.heap[w.heap.size]? = some BR0):=by show Z.heap[w.heap.size]? = _;rw [hZ];exact (Below.heap_setCell _ _ _ _ (by show w.heap.size≠B;omega)).trans HZ.out
    have HXZ:Hid (Z.heap[A]? = some (BH qa qb)):=by show Z.heap[A]? = _;rw [hZ];exact (Below.heap_setCell _ _ _ _ (by show A≠B;exact hAB)).trans HXA.out
    have HGZ:Hid (w.grownBy Z (some B)):=by show w.grownBy Z (some B);rw [hZ];exact gr_set (grown_of_below HBY.out _) (.inr rfl) _
    have hzlZ:=(Array.getElem?_eq_some_iff.1 HZZ.out).1;have HCR:Hid (Calls Tryz.prog 106 #[.pointer (some ⟨B,0,none⟩),.agg #[.int .i64 qa,.int .i64 qb]] Z fun e w'=>∃ u,e = .returned (VBad E2)/\w'.heap[B]? = some (BTk u (.slice oo om oc) (.slice sp sn sc) dn cl c)/\Nf.Now (Z.heap.size + 1) w' (.slice p m q) u T T2/\Z.grownBy w' (some B)):=by
      have h1:=nrelease_any (.slice p m q) (.slice oo om oc) sp sn sc dn cl c L1 B qa qb Z HTZ.out HVZ.out O HOZ.out.wide (by rw [HVY.out.2];exact hN);rw [HVY.out.2,hE2,hT2] at h1;exact h1
    obtain ⟨⟨a0,a1⟩,_⟩:=two_of HXA.out;obtain ⟨t0,-,-,-,-,-,-,-,-,-,-,-,-,-,-⟩:=tk_of HTY.out;have tf:=tk_fr HTY.out 0;have HXB:Hid (∃ a0:Z.cell? ⟨A,0,none⟩ = some (.int .i64 qa),Z.cell? ⟨A,1,none⟩ = some (.int .i64 qb)):=by
      obtain ⟨⟨b0,b1⟩,_⟩:=two_of HXZ.out;exact ⟨b0,b1⟩
    clear hE2 hT2 HE2 HT2 HNM hN HXZ;go_wp2_with fail;rw [← hZ];clear hZ t0 tf a0 a1;refine HCR.out.mono ?_;rintro e w7 ⟨u,rfl,hB7,hN7,hg7⟩;have HB7:Hid (w7.heap[B]? = some (BTk u (.slice oo om oc) (.slice sp sn sc) dn cl c)):=hB7;have HN7:Hid (Nf.Now (w.heap.size + 1) w7 (.slice ao n cap) u T0 T2):=by
      rcases hN7 with ⟨h1,h2⟩ | ⟨L',h1,h2⟩
      · refine .inr ⟨L1, ?_, HVY.out.2.trans h2.symm⟩
        rw [h1];exact (tab_grown HVZ.out hg7 (by show ¬ w.heap.size < B;omega)).imp fun b hb _=>hb
      · exact .inr ⟨L',h1.more (by omega),h2⟩
    have HG7:Hid (w.grownBy w7 (some B)):=grown_trans HGZ.out hg7;have HZ7:Hid (w7.heap[w.heap.size]? = some BR0):=(hg7.block _ hzlZ (by simp;omega)).trans HZZ.out;obtain ⟨g0,g1,g2,g3,g4,g5,g6,g7,g8,g9⟩:=rp_of HZ7.out;have gg:=fr_at HZ7.out;clear hB7 hN7 hg7 HCR;go_wp2
    (try simp only [Exit.inBlock,Exit.then])
    refine bodyPost_ret (v:=VBad E2) ?_ rfl ⟨u,rfl,?_,?_,?_⟩
    · rw [results_cell1 rfl]
      go_simp
    · repeat (with_reducible refine (Below.heap_setCell _ _ _ _ (show B ≠ w.heap.size from hBne)).trans ?_)
      exact HB7.out
    · exact HN7.out.cells (A:=w.heap.size) (Nat.lt_succ_self _) (cV E2 0 0 0 0 0 0) 0
    · repeat (with_reducible refine gr_set ?_ (.inl (Nat.le_refl w.heap.size)) _)
      exact HG7.out
  · have hE2 := HE2.out
    have hT2:=HT2.out;rw [if_neg h0] at hE2 hT2;subst hE2;subst hT2;have hz:(E != 0) = true:=by simpa using h0
    have HE:Hid (E≠0):=h0;clear HE2 HT2 HNM;go_wp2_with fail;refine (wrong_any E _).mono ?_;rintro e w7 ⟨rfl,hb7⟩;have HB7:Hid (w.grownBy w7 (some B)/\w7.heap[B]? = some (BTk (.slice ao n cap) (.slice oo om oc) (.slice sp sn sc) dn cl c)):=⟨grown_of_below (HBY.out.trans (hb7.mono HBY.out.size)) _,(hb7.block _ (Array.getElem?_eq_some_iff.1 HTY.out).1).trans HTY.out⟩;have HZ7:=qK hb7 HZ;obtain ⟨g0,g1,g2,g3,g4,g5,g6,g7,g8,g9⟩:=rp_of HZ7.out;have gg:=fr_at HZ7.out;clear hb7;go_wp2
    (try simp only [Exit.inBlock,Exit.then])
    refine bodyPost_ret (v:=VBad E) ?_ rfl ⟨.slice ao n cap,rfl,?_,.inl ⟨rfl,rfl⟩,?_⟩
    · rw [results_cell1 rfl]
      go_simp
    · repeat (with_reducible refine (Below.heap_setCell _ _ _ _ (show B ≠ w.heap.size from hBne)).trans ?_)
      exact HB7.out.2
    · repeat (with_reducible refine gr_set ?_ (.inl (Nat.le_refl w.heap.size)) _)
      exact HB7.out.1
end
section
open Go
namespace Fst
section
variable {P:Program} {ops:Array Oper} {Q:Exit->Act->World->Prop} {md:Region.Mode} {S:World->Prop} {late:Nat->Bool}
def Sl (late:Nat->Bool) (S:World->Prop) (l:Array Bool) (w:World):Prop:=(∃ k,late k = true/\l.getD k false = true)∨S w
def anyL (P:Program) (md:Region.Mode) (ops:Array Oper) (Q:Exit->Act->World->Prop) (late:Nat->Bool) (S:World->Prop):Nat->Array Bool->Act->World->Prop
 | 0,l,a,w=>Region.ready md ops l = []/\Q .normal a w
 | n + 1,l,a,w=>(Region.ready md ops l = []->Q .normal a w)/\∀ i∈Region.ready md ops l,wpOp P ops Q i (fun a' w'=>Sl late S (l.setIfInBounds i true) w'/\anyL P md ops Q late S n (l.setIfInBounds i true) a' w') a w
theorem any_of:∀ (n:Nat) (l:Array Bool) (a:Act) (w:World),anyL P md ops Q late S n l a w->wpAny P md ops Q n l a w
 | 0,_,_,_,h=>h
 | n + 1,_,_,_,h=>⟨h.1,fun i hi=>wpOp_mono (fun a' w' h'=>any_of n _ a' w' h'.2) (h.2 i hi)⟩
theorem unlisted {l:Array Bool} {i:Nat} (h:l.getD i true = false):l.getD i false = false:=by
 rcases Nat.lt_or_ge i l.size with h' | h'
 ·simp [h'] at h ⊢;exact h
 ·simp [Array.getElem?_eq_none h'] at h
theorem first {i:Nat} {oi:Oper} {v:Value} (hi:ops[i]? = some oi) (hsel:∀ (j:Nat) (o:Oper) cs b,ops[j]? = some o->o.op≠.select cs b)
  (hQ:∀ c a w,Q (.panic c) (a.put oi.dst v) w->Q (.panic c) a w) (hli:late i = false)
  (hw:∀ j oj,ops[j]? = some oj->late j = true->∃ e∈oj.after,Region.binds md e = true/\(e.on = i∨late e.on = true)) :
  ∀ (n:Nat) (l:Array Bool) (a:Act) (w:World),
   (∀ j oj,ops[j]? = some oj->j≠i->l.getD j true = false->(∀ e∈oj.after,Region.binds md e = true->e.on≠i)->oi.apart ops oj = true) ->
   i∈Region.ready md ops l->(∀ k,late k = true->l.getD k false = false)->YieldsIf P ops S oi v a->S w ->
   anyL P md ops Q late S n (l.setIfInBounds i true) (a.put oi.dst v) w->anyL P md ops Q late S (n + 1) l a w:=by
 intro n
 induction n with
 | zero =>
  intro l a w _ hr _ hy hS H;refine ⟨fun h=>(by rw [h] at hr;cases hr),fun j hj=>?_⟩
  by_cases hji:j = i
  ·subst hji;exact hy.wpOp hi hS ⟨.inr hS,H⟩
  ·have:=ready_mono hj hji;rw [H.1] at this
   cases this
 | succ n ih =>
  intro l a w hfree hr hno hy hS H;refine ⟨fun h=>(by rw [h] at hr;cases hr),fun j hj=>?_⟩
  by_cases hji:j = i
  ·subst hji;exact hy.wpOp hi hS ⟨.inr hS,H⟩
  ·have h1:=H.2 j (ready_mono hj hji);obtain ⟨hjun,oj,hoj,hall⟩:=mem_ready.1 hj;have hiun:=unlisted (mem_ready.1 hr).1;have hnot:∀ e∈oj.after,Region.binds md e = true->e.on≠i:=fun e he hb heq=>by
    have h1:=hall e he hb;rw [heq,hiun] at h1
    cases h1
   have hlj:late j = false:=by
    cases h:late j with
    | false=>rfl
    | true =>
     obtain ⟨e,he,hb,h2 | h2⟩:=hw j oj hoj h
     ·exact absurd h2 (hnot e he hb)
     ·have h3:=hall e he hb;rw [hno _ h2] at h3
      cases h3
   have hno':∀ k,late k = true->(l.setIfInBounds j true).getD k false = false:=fun k hk=>by
    rw [getD_set_ne false (fun e=>by subst e;rw [hlj] at hk;cases hk)];exact hno k hk
   have h2:=wpOp_putIf (S:=S) hoj (hfree j oj hoj hji hjun hnot) (fun cs b=>hsel i oi cs b hi) (fun cs b=>hsel j oj cs b hoj) hQ hy h1;have hfree':∀ k ok,ops[k]? = some ok->k≠i->(l.setIfInBounds j true).getD k true = false ->
     (∀ e∈ok.after,Region.binds md e = true->e.on≠i)->oi.apart ops ok = true:=fun k ok hk hki hun hn=>by
    refine hfree k ok hk hki ?_ hn
    by_cases hjk:j = k
    ·subst hjk;exact hjun
    ·rw [getD_set_ne true hjk] at hun;exact hun
   refine wpOp_mono (fun a' w' h3=>?_) h2;obtain ⟨hy3,hS3,H3⟩:=h3;have hS':S w':=by
    rcases hS3 with ⟨k,hk,hk2⟩ | h
    ·rw [getD_set_ne false (fun e=>by subst e;rw [hlj] at hk;cases hk),getD_set_ne false (fun e=>by subst e;rw [hli] at hk;cases hk),hno k hk] at hk2
     cases hk2
    ·exact h
   refine ⟨.inr hS',ih (l.setIfInBounds j true) a' w' hfree' (ready_mono hr (Ne.symm hji)) hno' hy3 hS' ?_⟩;rw [Array.setIfInBounds_comm _ _ hji];exact H3
theorem of_any:∀ (n:Nat) (l:Array Bool) (a:Act) (w:World),(∀ j∈List.range ops.size,l.getD j true = false->late j = true)->wpAny P md ops Q n l a w->anyL P md ops Q late S n l a w
 | 0,_,_,_,_,h=>h
 | n + 1, l, _, _, hl, h => ⟨h.1, fun i hi => wpOp_mono (fun a' w' h' => by
   obtain ⟨hun,o,ho,-⟩:=mem_ready.1 hi;have hlt:i < ops.size:=(qL ho);have hll:i < l.size:=by
    rcases Nat.lt_or_ge i l.size with h' | h'
    ·exact h'
    ·simp [Array.getElem?_eq_none h'] at hun
   refine ⟨.inl ⟨i,hl i (List.mem_range.2 hlt) hun,by simp [hll]⟩,of_any n _ a' w' (fun j hj hju=>hl j hj ?_) h'⟩
   by_cases hij:i = j
   ·subst hij;exact hun
   ·rw [getD_set_ne true hij] at hju;exact hju) (h.2 i hi)⟩
def waitsB (md:Region.Mode) (ops:Array Oper) (ls:List Nat) (i:Nat):Bool:=!ls.contains i && (List.range ops.size).all fun j=>!ls.contains j || match ops[j]? with
 | some o=>o.after.any fun e=>Region.binds md e && (e.on == i || ls.contains e.on)
 | none=>true
theorem take {ls:List Nat} {i:Nat} {oi:Oper} {v:Value} {n:Nat} {l:Array Bool} {a:Act} {w:World} (hi:ops[i]? = some oi) (hs:Region.noSelect ops = true) (hf:Region.free md ops l i = true) (hr:(Region.ready md ops l).contains i = true) (hb:waitsB md ops ls i = true) (hn:(ls.all fun k=>!l.getD k false) = true)
  (hQ:∀ c a w,Q (.panic c) (a.put oi.dst v) w->Q (.panic c) a w) (hy:YieldsIf P ops S oi v a) (hS:S w)
  (h:anyL P md ops Q (fun k=>ls.contains k) S n (l.setIfInBounds i true) (a.put oi.dst v) w):anyL P md ops Q (fun k=>ls.contains k) S (n + 1) l a w:=by
 unfold waitsB at hb;rw [Bool.and_eq_true] at hb;refine first hi (Region.noSelect_spec hs) hQ (by simpa using hb.1) (fun j oj hj hl=>?_) n l a w (Region.free_spec hi hf) (by simpa using hr) (fun k hk=>?_) hy hS h
 ·have h1:=List.all_eq_true.1 hb.2 j (List.mem_range.2 (qL hj));rw [show ls.contains j = true from hl,hj] at h1;simp only [Bool.not_true,Bool.false_or] at h1;obtain ⟨e,he,h2⟩:=Array.any_eq_true'.1 h1;simp only [Bool.and_eq_true,Bool.or_eq_true,beq_iff_eq] at h2;exact ⟨e,he,h2.1,h2.2⟩
 ·have h1:=List.all_eq_true.1 hn k (by simpa using hk);simpa using h1
theorem tk {ls:List Nat} {i:Nat} {oi:Oper} {v:Value} {n:Nat} {l:Array Bool} {a:Act} {w:World} (hi:ops[i]? = some oi) (hy:YieldsIf P ops S oi v a) (hS:S w)
  (h:anyL P md ops Q (fun k=>ls.contains k) S n (l.setIfInBounds i true) (a.put oi.dst v) w)
  (hb:(Region.noSelect ops && (Region.free md ops l i && ((Region.ready md ops l).contains i && (waitsB md ops ls i && (ls.all fun k=>!l.getD k false))))) = true:=by kernel_rfl) (hQ:∀ c a w,Q (.panic c) (a.put oi.dst v) w->Q (.panic c) a w:=by exact fun _ _ _ h=>h):anyL P md ops Q (fun k=>ls.contains k) S (n + 1) l a w:=by
 simp only [Bool.and_eq_true] at hb;exact take hi hb.1 hb.2.1 hb.2.2.1 hb.2.2.2.1 hb.2.2.2.2 hQ hy hS h
theorem rest {ls:List Nat} {n:Nat} {l:Array Bool} {a:Act} {w:World} (hb:((List.range ops.size).all fun j=>l.getD j true || ls.contains j) = true) (h:wpAny P md ops Q n l a w):anyL P md ops Q (fun k=>ls.contains k) S n l a w :=
 of_any n l a w (fun j hj hu=>by
  have h1:=List.all_eq_true.1 hb j hj;rw [hu,Bool.false_or] at h1;exact h1) h
theorem of_late:∀ (n:Nat) (l:Array Bool) (a:Act) (w:World),(∃ k,late k = true/\l.getD k false = true)->wpAny P md ops Q n l a w->anyL P md ops Q late S n l a w
 | 0,_,_,_,_,h=>h
 | n + 1,_,_,_,⟨k,hk,hk2⟩,h=>⟨h.1,fun i hi=>wpOp_mono (fun a' w' h'=>⟨.inl ⟨k,hk,getD_set_true hk2⟩,of_late n _ a' w' ⟨k,hk,getD_set_true hk2⟩ h'⟩) (h.2 i hi)⟩
theorem two {ls:List Nat} {i j:Nat} {oi oj:Oper} {n:Nat} {l:Array Bool} {a:Act} {w:World} (hr:Region.ready md ops l = [i,j]) (hi:ops[i]? = some oi) (hj:ops[j]? = some oj) (hl:(ls.contains i && (l.setIfInBounds i true).getD i false) = true)
  (h1:∀ K':Act->World->Prop,(∀ a w,wpAny P md ops Q n (l.setIfInBounds i true) a w->K' a w)->if Region.wanted oi (yielded ops a.tmps) = true then Oper.wp P oi a w K' Q else K' (a.put oi.dst undef) w)
  (h2:∀ K':Act->World->Prop,(∀ a w,S w->anyL P md ops Q (fun k=>ls.contains k) S n (l.setIfInBounds j true) a w->K' a w)->if Region.wanted oj (yielded ops a.tmps) = true then Oper.wp P oj a w K' Q else K' (a.put oj.dst undef) w):anyL P md ops Q (fun k=>ls.contains k) S (n + 1) l a w:=by
 rw [Bool.and_eq_true] at hl;refine ⟨fun h=>(by rw [hr] at h;cases h),fun k hk=>?_⟩;rw [hr] at hk;rcases List.mem_cons.1 hk with rfl | hk
 ·exact wpOp_mono (fun a' w' h=>⟨.inl ⟨k,hl⟩,of_late n _ a' w' ⟨k,hl⟩ h⟩) (wpOp_step hi h1)
 ·rcases List.mem_cons.1 hk with rfl | hk
  ·have:=h2 (fun a' w'=>Sl (fun k=>ls.contains k) S (l.setIfInBounds k true) w'/\anyL P md ops Q (fun k=>ls.contains k) S n (l.setIfInBounds k true) a' w') (fun a' w' hS h=>⟨.inr hS,h⟩);unfold wpOp;simp only [hj];split
   ·rename_i hw;rw [if_pos hw] at this;exact .inl this
   ·rename_i hw;rw [if_neg hw] at this;exact this
  ·cases hk
end
end Fst
end
end Go.Proofs.YtneojimodomohaaGreat
