/- NRm, NRn, NPt, as one. -/
import Derived.Test.YtneojimodomohaaGreatV24
set_option maxHeartbeats 8000000
set_option maxRecDepth 100000
set_option linter.unusedSimpArgs false
namespace Go.Proofs.YtneojimodomohaaGreat
open Go.ChangeShapes Go.WideShapes Go.ChangeAt Go.RowKit Go.Deep It
namespace Nf
noncomputable def rdT (L:List Ino) (a b:Int) (s:ByteArray) (st:Int):List Ino:=if Sp.rmE (Sp.chk Sp.isSp) L a b s st = 0 then Sp.rmT (Sp.chk Sp.isSp) L a b s st else L
end Nf
theorem nrmdir_any {S:Nat->Prop} (vi vo vs:Value) (dn cl:Int) (c:Cal) (L:List Rw) (B:Nat) (w:World) (hB:w.heap[B]? = some (BTk vi vo vs dn cl c)) (hv:TabAt S w vi L) (hok:Sp.okN L) (hs:c.nm.size<=maxLen) :
  Calls Tryz.prog 56 #[.pointer (some ⟨B,0,none⟩)] w fun e w'=>∃ u,e = .returned (VBad (Sp.rmE (Sp.chk Sp.isSp) (pl L) c.no c.gen c.nm dn))/\w'.heap[B]? = some (BTk u vo vs dn cl c)/\Nf.Now (w.heap.size + 1) w' vi u (pl L) (Nf.rdT (pl L) c.no c.gen c.nm dn)/\w.grownBy w' (some B):=by
 have hBl:=(qL hB);obtain ⟨W,hW⟩:=qF (w.alloc BR0);have HB0:Hid _:=qB hW;have HA0:Hid _:=qC hW;have HT0:Hid (W.heap[B]? = some (BTk vi vo vs dn cl c)):=(HB0.out.block _ hBl).trans hB;have HV:Hid (TabAt S W vi L):=hv.up HB0.out;have hwW:w.heap.size < W.heap.size:=(qL HA0.out);have hBW:B < W.heap.size:=(qL HT0.out);have hBne:B≠w.heap.size:=by omega
 obtain ⟨ao,cap,hsi,-,-⟩:=hv.open;obtain ⟨n,hn'⟩:=qE L.length;rw [hn'] at hsi;subst hsi;obtain ⟨t0,-,-,t3,-,-,t6,t7,-,-,t10,-,-,-,-⟩:=tk_of HT0.out;have HSG:Hid (∀ V:World,Bw W V->V.cell? ⟨B,0,none⟩ = some (.slice ao n cap)/\V.cell? ⟨B,3,none⟩ = some (.int .i64 dn)/\V.cell? ⟨B,6,none⟩ = some (.int .i64 c.no)/\V.cell? ⟨B,7,none⟩ = some (.int .i64 c.gen)/\V.cell? ⟨B,10,none⟩ = some (.string c.nm)):=fun V h=>⟨cell_step t0 h,cell_step t3 h,cell_step t6 h,cell_step t7 h,cell_step t10 h⟩
 clear hv hB hn' t0 t3 t6 t7 t10;obtain ⟨E,hE⟩:=qE (Sp.rmE (Sp.chk Sp.isSp) (pl L) c.no c.gen c.nm dn);obtain ⟨T,hT⟩:=qE (Sp.rmT (Sp.chk Sp.isSp) (pl L) c.no c.gen c.nm dn);obtain ⟨T2,hT2⟩:=qE (Nf.rdT (pl L) c.no c.gen c.nm dn);rw [hE,hT2];unfold Nf.rdT at hT2;rw [hE,hT] at hT2;have HC:Hid (∀ V,Bw W V->Calls Tryz.prog 107 #[.slice ao n cap,.agg #[.int .i64 c.no,.int .i64 c.gen],.string c.nm,.int .i64 dn] V fun e w'=>∃ p m q L',e = .returned (.tuple #[.slice p m q,.int .i64 E])/\(TabAt (fun b=>W.heap.size<=b) w' (.slice p m q) L'/\pl L' = T)/\Bw V w'):=fun V h=>by
  refine (srmdir_any scheck_any isSp_means _ L c.no c.gen c.nm dn V (HV.out.up h) hok hs).mono ?_;rintro e w' ⟨u,L',h1,h2,h3,h4⟩;rw [hE] at h1;rw [hT] at h3;obtain ⟨p4,z4,hu,-,-⟩:=h2.open;subst hu;exact ⟨p4,L'.length,z4,L',h1,⟨h2.more h.size,h3⟩,h4⟩
 obtain ⟨T0,hT0⟩:=qE (pl L);rw [hT0] at hT2 ⊢;have HT2:Hid _:=hT2;clear hE hT hT2 hok hs hT0;go_enter Tryz.func56,Tryz.ntmps56;go_wp2_with fail;rw [← hW];clear hW;refine wp_region_any (by kernel_rfl) ?_;change wpAny _ _ _ _ _ _ _ (World.drew _);refine qV (i:=0) rfl ?_
 try simp only [qS]
 refine qV (i:=1) rfl ?_
 try simp only [qS]
 refine qV (i:=2) rfl ?_
 try simp only [qS]
 refine qV (i:=3) rfl ?_
 try simp only [qS]
 refine qV (i:=4) rfl ?_
 try simp only [qS]
 refine qV (i:=6) rfl ?_
 try simp only [qS]
 refine qV (i:=7) rfl ?_
 try simp only [qS]
 refine qV (i:=8) rfl ?_
 try simp only [qS]
 refine qV (i:=9) rfl ?_
 try simp only [qS]
 refine qV (i:=11) rfl ?_
 try simp only [qS]
 refine qV (i:=12) rfl ?_
 try simp only [qS]
 refine qV (i:=13) rfl ?_
 try simp only [qS]
 refine qV (i:=14) rfl ?_
 try simp only [qS]
 refine qV (i:=16) rfl ?_
 try simp only [qS]
 refine qV (i:=17) rfl ?_
 try simp only [qS]
 refine qV (i:=18) rfl ?_
 try simp only [qS]
 refine qV (i:=19) rfl ?_
 try simp only [qS]
 have HS:(fun V:World=>V.cell? ⟨B,0,none⟩ = some (.slice ao n cap)/\V.cell? ⟨B,3,none⟩ = some (.int .i64 dn)/\V.cell? ⟨B,6,none⟩ = some (.int .i64 c.no)/\V.cell? ⟨B,7,none⟩ = some (.int .i64 c.gen)/\V.cell? ⟨B,10,none⟩ = some (.string c.nm)) W.drew:=HSG.out _ (bel_drew (Below.refl _ _));refine Fst.any_of (late:=fun k=>[21,22,23,24,25].contains k) (S:=fun V:World=>V.cell? ⟨B,0,none⟩ = some (.slice ao n cap)/\V.cell? ⟨B,3,none⟩ = some (.int .i64 dn)/\V.cell? ⟨B,6,none⟩ = some (.int .i64 c.no)/\V.cell? ⟨B,7,none⟩ = some (.int .i64 c.gen)/\V.cell? ⟨B,10,none⟩ = some (.string c.nm)) _ _ _ _ ?_;refine Fst.tk (ls:=[21,22,23,24,25]) (i:=5) (v:=?v18) rfl (Or.inl ⟨by rfl,?h18⟩) HS ?r18
 case h18=>(rintro V ⟨s0,s3,s6,s7,s10⟩;go_simp;try with_reducible rfl)
 try simp only [qS]
 refine Fst.tk (ls:=[21,22,23,24,25]) (i:=10) (v:=?v19) rfl (Or.inl ⟨by rfl,?h19⟩) HS ?r19
 case h19=>(rintro V ⟨s0,s3,s6,s7,s10⟩;go_simp;try with_reducible rfl)
 try simp only [qS]
 refine Fst.tk (ls:=[21,22,23,24,25]) (i:=15) (v:=?v20) rfl (Or.inl ⟨by rfl,?h20⟩) HS ?r20
 case h20=>(rintro V ⟨s0,s3,s6,s7,s10⟩;go_simp;try with_reducible rfl)
 try simp only [qS]
 refine Fst.tk (ls:=[21,22,23,24,25]) (i:=20) (v:=?v21) rfl (Or.inl ⟨by rfl,?h21⟩) HS ?r21
 case h21=>(rintro V ⟨s0,s3,s6,s7,s10⟩;go_simp;try with_reducible rfl)
 try simp only [qS]
 refine Fst.rest (by kernel_rfl) ?_;refine wpAny_ready (rs:=[21]) (by kernel_rfl) (by simp) ?_;refine AllReady.cons rfl (fun K hK=>?_) AllReady.nil
 go_simp
 refine (HC.out _ (bel_drew (Below.refl _ _))).mono ?_;rintro e w5 ⟨p,m,q,L',rfl,ht5,hb5⟩;have hb55:Bw W w5:=undrew hb5;have HT5:Hid _:=(hb55.block _ hBW).trans HT0.out;have HU5:Hid _:=ht5;have HB5:=qJ HB0 hb55;have HR5:Hid _:=(hb55.block _ hwW).trans HA0.out;clear hb5 ht5 hb55 HC HSG HS HV
 (try go_wp2_with fail)
 first | (refine hK _ _ ?_;clear hK K) | skip
 try simp only [qS]
 refine qV (i:=22) rfl ?_
 try simp only [qS]
 refine qV (i:=23) rfl ?_
 try simp only [qS]
 refine wpAny_ready (rs:=[24]) (by kernel_rfl) (by simp) ?_;refine AllReady.cons rfl (fun K hK=>?_) AllReady.nil
 go_simp
 refine (change_any (.slice ao n cap) vo vs dn cl c B p m q E _ HT5.out).mono ?_;rintro e w7 ⟨rfl,hB7,hg7⟩;have HR7:Hid _:=(hg7.block _ (qL HR5.out) (by simp;omega)).trans HR5.out;obtain ⟨g0,g1,g2,g3,g4,g5,g6,g7,g8,g9⟩:=rp_of HR7.out;have gg:=fr_at HR7.out;have HB7:Hid _:=hB7;have HU7:Hid _:=tab_grown HU5.out.1 hg7 (by show ¬ W.heap.size<=B;omega);have HG7:Hid _:=grown_trans (grown_of_below HB5.out _) hg7;clear hB7 hg7
 (try go_wp2_with fail)
 first | (refine hK _ _ ?_;clear hK K) | skip
 try simp only [qS]
 refine wpAny_ready (rs:=[25]) (by kernel_rfl) (by simp) ?_;refine AllReady.cons rfl (fun K hK=>?_) AllReady.nil
 go_simp
 (try go_wp2_with fail)
 first | (refine hK _ _ ?_;clear hK K) | skip
 try simp only [qS]
 refine wpAny_done (by kernel_rfl) ?_ _;go_wp2
 (try simp only [Exit.inBlock,Exit.then])
 refine bodyPost_ret (v:=VBad E) ?_ rfl ⟨if E = 0 then .slice p m q else .slice ao n cap,rfl,?_,?_,?_⟩
 ·rw [results_cell1 rfl]
  go_simp
 ·repeat (with_reducible refine (Below.heap_setCell _ _ _ _ (show B≠w.heap.size from hBne)).trans ?_)
  exact HB7.out
 ·have hT:=HT2.out
  by_cases hz:E = 0
  ·rw [if_pos hz] at hT ⊢;refine .inr ⟨L',?_,HU5.out.2.trans hT⟩;refine TabAt.imp ?_ (S:=fun b=>W.heap.size<=b) (fun b hb _=>by omega);exact setCells_tab (A:=w.heap.size) (S:=fun b=>W.heap.size<=b) (by show ¬ W.heap.size<=w.heap.size;omega) (cV E 0 0 0 0 0 0) 0 _ HU7.out
  ·rw [if_neg hz] at hT ⊢;exact .inl ⟨rfl,hT.symm⟩
 ·repeat (with_reducible refine gr_set ?_ (.inl (Nat.le_refl w.heap.size)) _)
  exact HG7.out
namespace Nf
noncomputable def rnT (L:List Ino) (a b:Int) (s:ByteArray) (c d:Int) (s2:ByteArray) (st:Int):List Ino:=if Sp.rnE (Sp.chk Sp.isSp) Sp.insB L a b s c d s2 st = 0 then Sp.rnT (Sp.chk Sp.isSp) Sp.insB L a b s c d s2 st else L
end Nf
theorem nrename_any {S:Nat->Prop} (vi vo vs:Value) (dn cl:Int) (c:Cal) (L:List Rw) (B:Nat) (w:World) (hB:w.heap[B]? = some (BTk vi vo vs dn cl c)) (hv:TabAt S w vi L) (hok:Sp.okN L) (hs:c.nm.size<=maxLen) (hs2:c.nm2.size<=maxLen) :
  Calls Tryz.prog 57 #[.pointer (some ⟨B,0,none⟩)] w fun e w'=>∃ u,e = .returned (VBad (Sp.rnE (Sp.chk Sp.isSp) Sp.insB (pl L) c.no c.gen c.nm c.no2 c.gen2 c.nm2 dn))/\w'.heap[B]? = some (BTk u vo vs dn cl c)/\Nf.Now (w.heap.size + 1) w' vi u (pl L) (Nf.rnT (pl L) c.no c.gen c.nm c.no2 c.gen2 c.nm2 dn)/\w.grownBy w' (some B):=by
 have hBl:=(qL hB);obtain ⟨W,hW⟩:=qF (w.alloc BR0);have HB0:Hid _:=qB hW;have HA0:Hid _:=qC hW;have HT0:Hid (W.heap[B]? = some (BTk vi vo vs dn cl c)):=(HB0.out.block _ hBl).trans hB;have HV:Hid (TabAt S W vi L):=hv.up HB0.out;have hwW:w.heap.size < W.heap.size:=(qL HA0.out);have hBW:B < W.heap.size:=(qL HT0.out);have hBne:B≠w.heap.size:=by omega
 obtain ⟨ao,cap,hsi,-,-⟩:=hv.open;obtain ⟨n,hn'⟩:=qE L.length;rw [hn'] at hsi;subst hsi;obtain ⟨t0,-,-,t3,-,-,t6,t7,t8,t9,t10,t11,-,-,-⟩:=tk_of HT0.out;have HSG:Hid (∀ V:World,Bw W V->V.cell? ⟨B,0,none⟩ = some (.slice ao n cap)/\V.cell? ⟨B,3,none⟩ = some (.int .i64 dn)/\V.cell? ⟨B,6,none⟩ = some (.int .i64 c.no)/\V.cell? ⟨B,7,none⟩ = some (.int .i64 c.gen)/\V.cell? ⟨B,10,none⟩ = some (.string c.nm)/\V.cell? ⟨B,8,none⟩ = some (.int .i64 c.no2)/\V.cell? ⟨B,9,none⟩ = some (.int .i64 c.gen2)/\V.cell? ⟨B,11,none⟩ = some (.string c.nm2)):=fun V h=>⟨cell_step t0 h,cell_step t3 h,cell_step t6 h,cell_step t7 h,cell_step t10 h,cell_step t8 h,cell_step t9 h,cell_step t11 h⟩
 clear hv hB hn' t0 t3 t6 t7 t10 t8 t9 t11;obtain ⟨E,hE⟩:=qE (Sp.rnE (Sp.chk Sp.isSp) Sp.insB (pl L) c.no c.gen c.nm c.no2 c.gen2 c.nm2 dn);obtain ⟨T,hT⟩:=qE (Sp.rnT (Sp.chk Sp.isSp) Sp.insB (pl L) c.no c.gen c.nm c.no2 c.gen2 c.nm2 dn);obtain ⟨T2,hT2⟩:=qE (Nf.rnT (pl L) c.no c.gen c.nm c.no2 c.gen2 c.nm2 dn);rw [hE,hT2];unfold Nf.rnT at hT2;rw [hE,hT] at hT2;have HC:Hid (∀ V,Bw W V->Calls Tryz.prog 108 #[.slice ao n cap,.agg #[.int .i64 c.no,.int .i64 c.gen],.string c.nm,.agg #[.int .i64 c.no2,.int .i64 c.gen2],.string c.nm2,.int .i64 dn] V fun e w'=>∃ p m q L',e = .returned (.tuple #[.slice p m q,.int .i64 E])/\(TabAt (fun b=>W.heap.size<=b) w' (.slice p m q) L'/\pl L' = T)/\Bw V w'):=fun V h=>by
  refine (srename_any scheck_any isSp_means ins_said _ L c.no c.gen c.nm c.no2 c.gen2 c.nm2 dn V (HV.out.up h) hok hs hs2).mono ?_;rintro e w' ⟨u,L',h1,h2,h3,h4⟩;rw [hE] at h1;rw [hT] at h3;obtain ⟨p4,z4,hu,-,-⟩:=h2.open;subst hu;exact ⟨p4,L'.length,z4,L',h1,⟨h2.more h.size,h3⟩,h4⟩
 obtain ⟨T0,hT0⟩:=qE (pl L);rw [hT0] at hT2 ⊢;have HT2:Hid _:=hT2;clear hE hT hT2 hok hs hs2 hT0;go_enter Tryz.func57,Tryz.ntmps57;go_wp2_with fail;rw [← hW];clear hW;refine wp_region_any (by kernel_rfl) ?_;change wpAny _ _ _ _ _ _ _ (World.drew _);refine qV (i:=0) rfl ?_
 try simp only [qS]
 refine qV (i:=1) rfl ?_
 try simp only [qS]
 refine qV (i:=2) rfl ?_
 try simp only [qS]
 refine qV (i:=3) rfl ?_
 try simp only [qS]
 refine qV (i:=4) rfl ?_
 try simp only [qS]
 refine qV (i:=6) rfl ?_
 try simp only [qS]
 refine qV (i:=7) rfl ?_
 try simp only [qS]
 refine qV (i:=8) rfl ?_
 try simp only [qS]
 refine qV (i:=9) rfl ?_
 try simp only [qS]
 refine qV (i:=11) rfl ?_
 try simp only [qS]
 refine qV (i:=12) rfl ?_
 try simp only [qS]
 refine qV (i:=13) rfl ?_
 try simp only [qS]
 refine qV (i:=14) rfl ?_
 try simp only [qS]
 refine qV (i:=16) rfl ?_
 try simp only [qS]
 refine qV (i:=17) rfl ?_
 try simp only [qS]
 refine qV (i:=18) rfl ?_
 try simp only [qS]
 refine qV (i:=19) rfl ?_
 try simp only [qS]
 refine qV (i:=21) rfl ?_
 try simp only [qS]
 refine qV (i:=22) rfl ?_
 try simp only [qS]
 refine qV (i:=23) rfl ?_
 try simp only [qS]
 refine qV (i:=24) rfl ?_
 try simp only [qS]
 refine qV (i:=26) rfl ?_
 try simp only [qS]
 refine qV (i:=27) rfl ?_
 try simp only [qS]
 refine qV (i:=28) rfl ?_
 try simp only [qS]
 refine qV (i:=29) rfl ?_
 try simp only [qS]
 have HS:(fun V:World=>V.cell? ⟨B,0,none⟩ = some (.slice ao n cap)/\V.cell? ⟨B,3,none⟩ = some (.int .i64 dn)/\V.cell? ⟨B,6,none⟩ = some (.int .i64 c.no)/\V.cell? ⟨B,7,none⟩ = some (.int .i64 c.gen)/\V.cell? ⟨B,10,none⟩ = some (.string c.nm)/\V.cell? ⟨B,8,none⟩ = some (.int .i64 c.no2)/\V.cell? ⟨B,9,none⟩ = some (.int .i64 c.gen2)/\V.cell? ⟨B,11,none⟩ = some (.string c.nm2)) W.drew:=HSG.out _ (bel_drew (Below.refl _ _));refine Fst.any_of (late:=fun k=>[31,32,33,34,35].contains k) (S:=fun V:World=>V.cell? ⟨B,0,none⟩ = some (.slice ao n cap)/\V.cell? ⟨B,3,none⟩ = some (.int .i64 dn)/\V.cell? ⟨B,6,none⟩ = some (.int .i64 c.no)/\V.cell? ⟨B,7,none⟩ = some (.int .i64 c.gen)/\V.cell? ⟨B,10,none⟩ = some (.string c.nm)/\V.cell? ⟨B,8,none⟩ = some (.int .i64 c.no2)/\V.cell? ⟨B,9,none⟩ = some (.int .i64 c.gen2)/\V.cell? ⟨B,11,none⟩ = some (.string c.nm2)) _ _ _ _ ?_;refine Fst.tk (ls:=[31,32,33,34,35]) (i:=5) (v:=?v26) rfl (Or.inl ⟨by rfl,?h26⟩) HS ?r26
 case h26=>(rintro V ⟨s0,s3,s6,s7,s10,s8,s9,s11⟩;go_simp;try with_reducible rfl)
 try simp only [qS]
 refine Fst.tk (ls:=[31,32,33,34,35]) (i:=10) (v:=?v27) rfl (Or.inl ⟨by rfl,?h27⟩) HS ?r27
 case h27=>(rintro V ⟨s0,s3,s6,s7,s10,s8,s9,s11⟩;go_simp;try with_reducible rfl)
 try simp only [qS]
 refine Fst.tk (ls:=[31,32,33,34,35]) (i:=15) (v:=?v28) rfl (Or.inl ⟨by rfl,?h28⟩) HS ?r28
 case h28=>(rintro V ⟨s0,s3,s6,s7,s10,s8,s9,s11⟩;go_simp;try with_reducible rfl)
 try simp only [qS]
 refine Fst.tk (ls:=[31,32,33,34,35]) (i:=20) (v:=?v29) rfl (Or.inl ⟨by rfl,?h29⟩) HS ?r29
 case h29=>(rintro V ⟨s0,s3,s6,s7,s10,s8,s9,s11⟩;go_simp;try with_reducible rfl)
 try simp only [qS]
 refine Fst.tk (ls:=[31,32,33,34,35]) (i:=25) (v:=?v30) rfl (Or.inl ⟨by rfl,?h30⟩) HS ?r30
 case h30=>(rintro V ⟨s0,s3,s6,s7,s10,s8,s9,s11⟩;go_simp;try with_reducible rfl)
 try simp only [qS]
 refine Fst.tk (ls:=[31,32,33,34,35]) (i:=30) (v:=?v31) rfl (Or.inl ⟨by rfl,?h31⟩) HS ?r31
 case h31=>(rintro V ⟨s0,s3,s6,s7,s10,s8,s9,s11⟩;go_simp;try with_reducible rfl)
 try simp only [qS]
 refine Fst.rest (by kernel_rfl) ?_;refine wpAny_ready (rs:=[31]) (by kernel_rfl) (by simp) ?_;refine AllReady.cons rfl (fun K hK=>?_) AllReady.nil
 go_simp
 refine (HC.out _ (bel_drew (Below.refl _ _))).mono ?_;rintro e w5 ⟨p,m,q,L',rfl,ht5,hb5⟩;have hb55:Bw W w5:=undrew hb5;have HT5:Hid _:=(hb55.block _ hBW).trans HT0.out;have HU5:Hid _:=ht5;have HB5:=qJ HB0 hb55;have HR5:Hid _:=(hb55.block _ hwW).trans HA0.out;clear hb5 ht5 hb55 HC HSG HS HV
 (try go_wp2_with fail)
 first | (refine hK _ _ ?_;clear hK K) | skip
 try simp only [qS]
 refine qV (i:=32) rfl ?_
 try simp only [qS]
 refine qV (i:=33) rfl ?_
 try simp only [qS]
 refine wpAny_ready (rs:=[34]) (by kernel_rfl) (by simp) ?_;refine AllReady.cons rfl (fun K hK=>?_) AllReady.nil
 go_simp
 refine (change_any (.slice ao n cap) vo vs dn cl c B p m q E _ HT5.out).mono ?_;rintro e w7 ⟨rfl,hB7,hg7⟩;have HR7:Hid _:=(hg7.block _ (qL HR5.out) (by simp;omega)).trans HR5.out;obtain ⟨g0,g1,g2,g3,g4,g5,g6,g7,g8,g9⟩:=rp_of HR7.out;have gg:=fr_at HR7.out;have HB7:Hid _:=hB7;have HU7:Hid _:=tab_grown HU5.out.1 hg7 (by show ¬ W.heap.size<=B;omega);have HG7:Hid _:=grown_trans (grown_of_below HB5.out _) hg7;clear hB7 hg7
 (try go_wp2_with fail)
 first | (refine hK _ _ ?_;clear hK K) | skip
 try simp only [qS]
 refine wpAny_ready (rs:=[35]) (by kernel_rfl) (by simp) ?_;refine AllReady.cons rfl (fun K hK=>?_) AllReady.nil
 go_simp
 (try go_wp2_with fail)
 first | (refine hK _ _ ?_;clear hK K) | skip
 try simp only [qS]
 refine wpAny_done (by kernel_rfl) ?_ _;go_wp2
 (try simp only [Exit.inBlock,Exit.then])
 refine bodyPost_ret (v:=VBad E) ?_ rfl ⟨if E = 0 then .slice p m q else .slice ao n cap,rfl,?_,?_,?_⟩
 ·rw [results_cell1 rfl]
  go_simp
 ·repeat (with_reducible refine (Below.heap_setCell _ _ _ _ (show B≠w.heap.size from hBne)).trans ?_)
  exact HB7.out
 ·have hT:=HT2.out
  by_cases hz:E = 0
  ·rw [if_pos hz] at hT ⊢;refine .inr ⟨L',?_,HU5.out.2.trans hT⟩;refine TabAt.imp ?_ (S:=fun b=>W.heap.size<=b) (fun b hb _=>by omega);exact setCells_tab (A:=w.heap.size) (S:=fun b=>W.heap.size<=b) (by show ¬ W.heap.size<=w.heap.size;omega) (cV E 0 0 0 0 0 0) 0 _ HU7.out
  ·rw [if_neg hz] at hT ⊢;exact .inl ⟨rfl,hT.symm⟩
 ·repeat (with_reducible refine gr_set ?_ (.inl (Nat.le_refl w.heap.size)) _)
  exact HG7.out
namespace Nf
noncomputable def ptT (L:List Ino) (a b:Int) (x:Ino):List Ino:=if putErr L a b x = 0 then putTab L a b x else L
end Nf
theorem setCells_off {A k:Nat}:∀ (vs:List Value) (o:Nat) (w:World),k≠A->(w.setCells A o vs).heap[k]? = w.heap[k]?
 | [],_,_,_=>rfl
 | _ :: vs,o,_,h=>(setCells_off vs (o + 1) _ h).trans (Below.heap_setCell _ _ _ _ h)
theorem setCells_gr {row:Option Nat} {A:Nat} {w:World} (hA:w.heap.size<=A∨some A = row):∀ (vs:List Value) (o:Nat) (w':World),w.grownBy w' row->w.grownBy (w'.setCells A o vs) row
 | [],_,_,h=>h
 | _ :: vs,o,_,h=>setCells_gr hA vs (o + 1) _ (gr_set h hA _)
theorem nput_any {S T':Nat->Prop} (vi vo vs:Value) (dn cl:Int) (c:Cal) (L:List Rw) (B:Nat) (x:Rw) (w:World) (hB:w.heap[B]? = some (BTk vi vo vs dn cl c)) (hv:TabAt S w vi L) (hx:Good T' w x) :
  Calls Tryz.prog 101 #[.pointer (some ⟨B,0,none⟩),VI x] w fun e w'=>∃ u,e = .returned (VRp (putErr (pl L) c.no c.gen x.i) 0 0 x.i.kind x.i.links x.i.size x.i.stamp ⟨#[]⟩ (.slice none 0 0) 0)/\w'.heap[B]? = some (BTk u vo vs dn cl c)/\Nf.Now (w.heap.size + 1) w' vi u (pl L) (Nf.ptT (pl L) c.no c.gen x.i)/\w.grownBy w' (some B):=by
 have hBl:=(qL hB);obtain ⟨W,hW⟩:=qF ((w.alloc (BIx x)).alloc BR0);have HB0:Hid (Bw w W):=by show Bw w W;rw [hW];exact (qG _ _).alloc (by simp) _
 have HX0:Hid (W.heap[w.heap.size]? = some (BIx x)):=by show W.heap[w.heap.size]? = _;rw [hW];exact (Below.heap_alloc _ _ _ (by simp)).trans (heap_alloc_new _ _)
 have HA0:Hid (W.heap[w.heap.size + 1]? = some BR0):=by show W.heap[w.heap.size + 1]? = _;rw [hW];have h:=heap_alloc_new (w.alloc (BIx x)) BR0;simpa using h
 have HT0:Hid (W.heap[B]? = some (BTk vi vo vs dn cl c)):=(HB0.out.block _ hBl).trans hB;have HV:Hid (TabAt S W vi L):=hv.up HB0.out;have HG:Hid (Good T' W x):=hx.up HB0.out;have hrW:w.heap.size + 1 < W.heap.size:=(qL HA0.out);have hwW:w.heap.size < W.heap.size:=by omega
 have hBW:B < W.heap.size:=(qL HT0.out);obtain ⟨ao,cap,hsi,-,-⟩:=hv.open;obtain ⟨n,hn'⟩:=qE L.length;rw [hn'] at hsi;subst hsi;have HSG:Hid (∀ V:World,Bw W V->V.cell? ⟨B,0,none⟩ = some (.slice ao n cap)/\V.cell? ⟨B,6,none⟩ = some (.int .i64 c.no)/\V.cell? ⟨B,7,none⟩ = some (.int .i64 c.gen)/\V.cell? ⟨w.heap.size,0,none⟩ = some (.int .i64 x.i.gen)/\V.cell? ⟨w.heap.size,1,none⟩ = some (.int .i64 x.i.kind)/\V.cell? ⟨w.heap.size,2,none⟩ = some (.int .i64 x.i.links)/\V.cell? ⟨w.heap.size,3,none⟩ = some (.int .i64 x.i.size)/\V.cell? ⟨w.heap.size,4,none⟩ = some (.int .i64 x.i.stamp)/\V.cell? ⟨w.heap.size,5,none⟩ = some (.slice x.rp x.rn x.rc)/\V.cell? ⟨w.heap.size,6,none⟩ = some (.slice x.ep x.en x.ec)/\V.cell? ⟨w.heap.size,7,none⟩ = some (.int .i64 x.i.next)):=fun V h=>by
  obtain ⟨t0,-,-,-,-,-,t6,t7,-,-,-,-,-,-,-⟩:=tk_of HT0.out;have k0:=cell_at HX0.out 0;have k1:=cell_at HX0.out 1;have k2:=cell_at HX0.out 2;have k3:=cell_at HX0.out 3;have k4:=cell_at HX0.out 4;have k5:=cell_at HX0.out 5;have k6:=cell_at HX0.out 6;have k7:=cell_at HX0.out 7;simp at k0 k1 k2 k3 k4 k5 k6 k7;exact ⟨cell_step t0 h,cell_step t6 h,cell_step t7 h,cell_step k0 h,cell_step k1 h,cell_step k2 h,cell_step k3 h,cell_step k4 h,cell_step k5 h,cell_step k6 h,cell_step k7 h⟩
 clear hv hB hn' hx;obtain ⟨E,hE⟩:=qE (putErr (pl L) c.no c.gen x.i);obtain ⟨T,hT⟩:=qE (putTab (pl L) c.no c.gen x.i);obtain ⟨T2,hT2⟩:=qE (Nf.ptT (pl L) c.no c.gen x.i);rw [hE,hT2];unfold Nf.ptT at hT2;rw [hE,hT] at hT2;have HC:Hid (∀ V,Bw W V->Calls Tryz.prog 152 #[.slice ao n cap,.agg #[.int .i64 c.no,.int .i64 c.gen],VI x] V fun e w'=>∃ p m q L',e = .returned (.tuple #[.slice p m q,.int .i64 E])/\(TabAt (fun b=>V.heap.size<=b) w' (.slice p m q) L'/\pl L' = T)/\Bw V w'):=fun V h=>by
  refine (put_any _ L c.no c.gen x V (HV.out.up h) (HG.out.up h)).mono ?_;rintro e w' ⟨u,L',h1,h2,h3,h4⟩;rw [hE] at h1;rw [hT] at h3;obtain ⟨p4,z4,hu,-,-⟩:=h2.open;subst hu;exact ⟨p4,L'.length,z4,L',h1,⟨h2,h3⟩,h4⟩
 obtain ⟨T0,hT0⟩:=qE (pl L);rw [hT0] at hT2 ⊢;have HT2:Hid _:=hT2;clear hE hT hT2 hT0;go_enter Tryz.func101,Tryz.ntmps101;go_wp2_with fail;rw [← hW];clear hW;apply cut_in
 ·intro hK0;refine wp_region_any (by kernel_rfl) ?_;change wpAny _ _ _ _ _ _ _ (World.drew _);refine qV (i:=0) rfl ?_
  try simp only [qS]
  refine qV (i:=1) rfl ?_
  try simp only [qS]
  refine qV (i:=2) rfl ?_
  try simp only [qS]
  refine qV (i:=3) rfl ?_
  try simp only [qS]
  refine qV (i:=4) rfl ?_
  try simp only [qS]
  refine qV (i:=6) rfl ?_
  try simp only [qS]
  refine qV (i:=7) rfl ?_
  try simp only [qS]
  refine qV (i:=8) rfl ?_
  try simp only [qS]
  refine qV (i:=9) rfl ?_
  try simp only [qS]
  have HS:(fun V:World=>V.cell? ⟨B,0,none⟩ = some (.slice ao n cap)/\V.cell? ⟨B,6,none⟩ = some (.int .i64 c.no)/\V.cell? ⟨B,7,none⟩ = some (.int .i64 c.gen)/\V.cell? ⟨w.heap.size,0,none⟩ = some (.int .i64 x.i.gen)/\V.cell? ⟨w.heap.size,1,none⟩ = some (.int .i64 x.i.kind)/\V.cell? ⟨w.heap.size,2,none⟩ = some (.int .i64 x.i.links)/\V.cell? ⟨w.heap.size,3,none⟩ = some (.int .i64 x.i.size)/\V.cell? ⟨w.heap.size,4,none⟩ = some (.int .i64 x.i.stamp)/\V.cell? ⟨w.heap.size,5,none⟩ = some (.slice x.rp x.rn x.rc)/\V.cell? ⟨w.heap.size,6,none⟩ = some (.slice x.ep x.en x.ec)/\V.cell? ⟨w.heap.size,7,none⟩ = some (.int .i64 x.i.next)) W.drew:=HSG.out _ (bel_drew (Below.refl _ _));refine Fst.any_of (late:=fun k=>[12,13,14,15,17].contains k) (S:=fun V:World=>V.cell? ⟨B,0,none⟩ = some (.slice ao n cap)/\V.cell? ⟨B,6,none⟩ = some (.int .i64 c.no)/\V.cell? ⟨B,7,none⟩ = some (.int .i64 c.gen)/\V.cell? ⟨w.heap.size,0,none⟩ = some (.int .i64 x.i.gen)/\V.cell? ⟨w.heap.size,1,none⟩ = some (.int .i64 x.i.kind)/\V.cell? ⟨w.heap.size,2,none⟩ = some (.int .i64 x.i.links)/\V.cell? ⟨w.heap.size,3,none⟩ = some (.int .i64 x.i.size)/\V.cell? ⟨w.heap.size,4,none⟩ = some (.int .i64 x.i.stamp)/\V.cell? ⟨w.heap.size,5,none⟩ = some (.slice x.rp x.rn x.rc)/\V.cell? ⟨w.heap.size,6,none⟩ = some (.slice x.ep x.en x.ec)/\V.cell? ⟨w.heap.size,7,none⟩ = some (.int .i64 x.i.next)) _ _ _ _ ?_;refine Fst.tk (ls:=[12,13,14,15,17]) (i:=5) (v:=?v10) rfl (Or.inl ⟨by rfl,?h10⟩) HS ?r10
  case h10=>(rintro V ⟨s0,s6,s7,x0,x1,x2,x3,x4,x5,x6,x7⟩;go_simp;try with_reducible rfl)
  try simp only [qS]
  refine Fst.tk (ls:=[12,13,14,15,17]) (i:=10) (v:=?v11) rfl (Or.inl ⟨by rfl,?h11⟩) HS ?r11
  case h11=>(rintro V ⟨s0,s6,s7,x0,x1,x2,x3,x4,x5,x6,x7⟩;go_simp;try with_reducible rfl)
  try simp only [qS]
  refine Fst.tk (ls:=[12,13,14,15,17]) (i:=11) (v:=?v12) rfl (Or.inl ⟨by rfl,?h12⟩) HS ?r12
  case h12=>(rintro V ⟨s0,s6,s7,x0,x1,x2,x3,x4,x5,x6,x7⟩;go_simp;try with_reducible rfl)
  try simp only [qS]
  refine Fst.two (ls:=[12,13,14,15,17]) (i:=12) (j:=16) (by kernel_rfl) rfl rfl (by kernel_rfl) (fun K hK=>?_) (fun K hK=>?_)
  ·go_simp
   refine (HC.out _ (bel_drew (Below.refl _ _))).mono ?_;rintro e w5 ⟨p,m,q,L',rfl,ht5,hb5⟩;have hb55:Bw W w5:=undrew hb5;have HT5:Hid _:=(hb55.block _ hBW).trans HT0.out;have HP5:Hid _:=ht5.2;have HB5:=qJ HB0 hb55;have HR5:Hid _:=(hb55.block _ hrW).trans HA0.out;have HX5:Hid _:=(hb55.block _ hwW).trans HX0.out;have HU5:Hid (TabAt (fun b=>W.heap.size<=b) w5 (.slice p m q) L'):=ht5.1.imp (fun b hb _=>hb);have h5s:W.heap.size<=w5.heap.size:=hb55.size;clear hb5 ht5 hb55 HS
   (try go_wp2_with fail)
   first | (refine hK _ _ ?_;clear hK K) | skip
   try simp only [qS]
   refine qV (i:=13) rfl ?_
   try simp only [qS]
   refine qV (i:=14) rfl ?_
   try simp only [qS]
   refine wpAny_ready (rs:=[15,16]) (by kernel_rfl) (by simp) ?_;refine AllReady.cons rfl (fun K hK=>?_) (AllReady.cons rfl (fun K hK=>?_) AllReady.nil)
   ·go_simp
    refine (change_any (.slice ao n cap) vo vs dn cl c B p m q E _ HT5.out).mono ?_;rintro e w7 ⟨rfl,hB7,hg7⟩;have HB7:Hid (w7.heap[B]? = some (BTk (if E = 0 then .slice p m q else .slice ao n cap) vo vs dn cl c)):=hB7;have HX7:Hid (w7.heap[w.heap.size]? = some (BIx x)):=(hg7.block _ (by omega) (by simp;omega)).trans HX5.out;have HR7:Hid (w7.heap[w.heap.size + 1]? = some BR0):=(hg7.block _ (by omega) (by simp;omega)).trans HR5.out;have HU7:Hid (TabAt (fun b=>W.heap.size<=b) w7 (.slice p m q) L'):=tab_grown HU5.out hg7 (by show ¬ W.heap.size<=B;omega);have HG7:Hid (w.grownBy w7 (some B)):=grown_trans (grown_of_below HB5.out _) hg7;have h7s:w5.heap.size<=w7.heap.size:=hg7.size;clear hB7 hg7
    (try go_wp2_with fail)
    first | (refine hK _ _ ?_;clear hK K) | skip
    try simp only [qS]
    refine wpAny_ready (rs:=[16]) (by kernel_rfl) (by simp) ?_;refine AllReady.cons rfl (fun K hK=>?_) AllReady.nil
    go_simp
    (try go_wp2_with fail)
    first | (refine hK _ _ ?_;clear hK K) | skip
    try simp only [qS]
    refine wpAny_ready (rs:=[17]) (by kernel_rfl) (by simp) ?_;refine AllReady.cons rfl (fun K hK=>?_) AllReady.nil
    go_simp
    (try go_wp2_with fail)
    first | (refine hK _ _ ?_;clear hK K) | skip
    try simp only [qS]
    refine wpAny_done (by kernel_rfl) ?_ _;obtain ⟨Y,hY⟩:=qF (w7.alloc (BRp E 0 0 0 0 0 0 ⟨#[]⟩ (.slice none 0 0) 0));rw [← hY];obtain ⟨A,hA⟩:=qF w7.heap.size;have hbY:Bw w7 Y:=by rw [hY];exact qG _ _
    have HR:Hid (Y.heap[A]? = some (BRp E 0 0 0 0 0 0 ⟨#[]⟩ (.slice none 0 0) 0)/\Y.heap[w.heap.size]? = some (BIx x)/\Y.heap[w.heap.size + 1]? = some BR0/\W.heap.size<=A/\Y.heap[B]? = some (BTk (if E = 0 then .slice p m q else .slice ao n cap) vo vs dn cl c)/\(TabAt (fun b=>W.heap.size<=b/\b≠A) Y (.slice p m q) L'/\pl L' = T)/\w.grownBy Y (some B)):=⟨by rw [hY,hA];exact heap_alloc_new _ _,(hbY.block _ (by omega)).trans HX7.out,(hbY.block _ (by omega)).trans HR7.out,by omega,(hbY.block _ (by omega)).trans HB7.out,⟨(HU7.out.imp (fun b hb hl=>⟨hb,by omega⟩)).up hbY,HP5.out⟩,gr_up HG7.out hbY⟩;rw [← hA];clear hA hY hbY HB7 HX7 HR7 HU7 HG7 HT5 HP5 HB5 HR5 HX5 HU5 h5s h7s;revert HR;revert A Y L' q m p;exact hK0.out
   ·go_simp
    (try go_wp2_with fail)
    first | (refine hK _ _ ?_;clear hK K) | skip
    try simp only [qS]
    refine wpAny_ready (rs:=[15]) (by kernel_rfl) (by simp) ?_;refine AllReady.cons rfl (fun K hK=>?_) AllReady.nil
    go_simp
    have hbV:Bw w5 (w5.alloc BR0):=qG _ _;refine (change_any (.slice ao n cap) vo vs dn cl c B p m q E _ ((hbV.block _ (by omega)).trans HT5.out)).mono ?_;rintro e w7 ⟨rfl,hB7,hg7⟩;have hs5:(w5.alloc BR0).heap.size = w5.heap.size + 1:=by simp
    have HB7:Hid _:=hB7;have HX7:Hid _:=(hg7.block _ (by omega) (by simp;omega)).trans ((hbV.block _ (by omega)).trans HX5.out);have HR7:Hid _:=(hg7.block _ (by omega) (by simp;omega)).trans ((hbV.block _ (by omega)).trans HR5.out);have HZ7:Hid _:=(hg7.block _ (by omega) (by simp;omega)).trans (heap_alloc_new _ _);have HU7:Hid (TabAt (fun b=>W.heap.size<=b/\b≠w5.heap.size) w7 (.slice p m q) L'):=tab_grown ((HU5.out.imp (fun b hb hl=>⟨hb,by omega⟩)).up hbV) hg7 (by show ¬ (W.heap.size<=B/\B≠w5.heap.size);omega);obtain ⟨g0,g1,g2,g3,g4,g5,g6,g7,g8,g9⟩:=rp_of HZ7.out;have gg:=fr_at HZ7.out;have HG7:Hid _:=grown_trans (gr_up (grown_of_below HB5.out _) hbV) hg7;clear hB7 hg7 hbV hs5
    (try go_wp2_with fail)
    first | (refine hK _ _ ?_;clear hK K) | skip
    try simp only [qS]
    refine wpAny_ready (rs:=[17]) (by kernel_rfl) (by simp) ?_;refine AllReady.cons rfl (fun K hK=>?_) AllReady.nil
    go_simp
    (try go_wp2_with fail)
    first | (refine hK _ _ ?_;clear hK K) | skip
    try simp only [qS]
    refine wpAny_done (by kernel_rfl) ?_ _;obtain ⟨Y,hY⟩:=qF ((((((((((w7.setCell ⟨w5.heap.size,0,none⟩ (.int .i64 E)).setCell ⟨w5.heap.size,1,none⟩ (.int .i64 0)).setCell ⟨w5.heap.size,2,none⟩ (.int .i64 0)).setCell ⟨w5.heap.size,3,none⟩ (.int .i64 0)).setCell ⟨w5.heap.size,4,none⟩ (.int .i64 0)).setCell ⟨w5.heap.size,5,none⟩ (.int .i64 0)).setCell ⟨w5.heap.size,6,none⟩ (.int .i64 0)).setCell ⟨w5.heap.size,7,none⟩ (.string ⟨#[]⟩)).setCell ⟨w5.heap.size,8,none⟩ (.slice none 0 0)).setCell ⟨w5.heap.size,9,none⟩ (.int .i64 0));rw [← hY];obtain ⟨A,hA⟩:=qF w5.heap.size;have hYe:Y = w7.setCells A 0 (cV E 0 0 0 0 0 0):=by rw [hA];exact hY
    have HU8:Hid (TabAt (fun b=>W.heap.size<=b/\b≠A) w7 (.slice p m q) L'):=by show TabAt _ _ _ _;rw [hA];exact HU7.out
    rw [← hA] at HZ7 ⊢;have hAl:W.heap.size<=A:=by omega
    have HR:Hid (Y.heap[A]? = some (BRp E 0 0 0 0 0 0 ⟨#[]⟩ (.slice none 0 0) 0)/\Y.heap[w.heap.size]? = some (BIx x)/\Y.heap[w.heap.size + 1]? = some BR0/\W.heap.size<=A/\Y.heap[B]? = some (BTk (if E = 0 then .slice p m q else .slice ao n cap) vo vs dn cl c)/\(TabAt (fun b=>W.heap.size<=b/\b≠A) Y (.slice p m q) L'/\pl L' = T)/\w.grownBy Y (some B)):=⟨by rw [hYe];exact setCells_at (cV E 0 0 0 0 0 0) HZ7.out rfl,by rw [hYe];exact (setCells_off _ _ _ (by omega)).trans HX7.out,by rw [hYe];exact (setCells_off _ _ _ (by omega)).trans HR7.out,hAl,by rw [hYe];exact (setCells_off _ _ _ (by omega)).trans HB7.out,⟨by rw [hYe];exact setCells_tab (fun h=>h.2 rfl) _ _ _ HU8.out,HP5.out⟩,by rw [hYe];exact setCells_gr (.inl (by omega)) _ _ _ HG7.out⟩;clear hA hY hYe hAl HU8 HB7 HX7 HR7 HU7 HG7 HT5 HP5 HB5 HR5 HX5 HZ7 gg g0 g1 g2 g3 g4 g5 g6 g7 g8 g9 HU5 h5s;revert HR;revert A Y L' q m p;exact hK0.out
  ·go_simp
   have hbV:Bw W (W.drew.alloc BR0):=(bel_drew (Below.refl _ _)).alloc (Nat.le_refl _) _;refine hK _ _ (HSG.out _ hbV) ?_;clear hK K
   try simp only [qS]
   refine Fst.rest (by kernel_rfl) ?_;refine wpAny_ready (rs:=[12]) (by kernel_rfl) (by simp) ?_;refine AllReady.cons rfl (fun K hK=>?_) AllReady.nil
   go_simp
   refine (HC.out _ (hbV)).mono ?_;rintro e w5 ⟨p,m,q,L',rfl,ht5,hb5⟩;have hb55:Bw W w5:=hbV.trans (hb5.mono hbV.size);have HT5:Hid _:=(hb55.block _ hBW).trans HT0.out;have HP5:Hid _:=ht5.2;have HB5:=qJ HB0 hb55;have HR5:Hid _:=(hb55.block _ hrW).trans HA0.out;have HX5:Hid _:=(hb55.block _ hwW).trans HX0.out;have hs0:(W.drew.alloc BR0).heap.size = W.heap.size + 1:=by simp
   have hU5:TabAt (fun b=>W.heap.size + 1<=b) w5 (.slice p m q) L':=ht5.1.imp (fun b hb _=>by rw [hs0] at hb;exact hb);have hZ5:w5.heap[W.heap.size]? = some BR0:=(hb5.block _ (by rw [hs0];omega)).trans (heap_alloc_new W.drew _);have h5s:W.heap.size < w5.heap.size:=(qL hZ5);have HU5:Hid _:=hU5;have HZ5:Hid _:=hZ5;clear hb5 ht5 hb55 HS hbV hs0 hU5 hZ5
   (try go_wp2_with fail)
   first | (refine hK _ _ ?_;clear hK K) | skip
   try simp only [qS]
   refine qV (i:=13) rfl ?_
   try simp only [qS]
   refine qV (i:=14) rfl ?_
   try simp only [qS]
   refine wpAny_ready (rs:=[15]) (by kernel_rfl) (by simp) ?_;refine AllReady.cons rfl (fun K hK=>?_) AllReady.nil
   go_simp
   refine (change_any (.slice ao n cap) vo vs dn cl c B p m q E _ HT5.out).mono ?_;rintro e w7 ⟨rfl,hB7,hg7⟩;have HB7:Hid _:=hB7;have HX7:Hid _:=(hg7.block _ (by omega) (by simp;omega)).trans (HX5.out);have HR7:Hid _:=(hg7.block _ (by omega) (by simp;omega)).trans (HR5.out);have HZ7:Hid _:=(hg7.block _ (by omega) (by simp;omega)).trans HZ5.out;have HU7:Hid (TabAt (fun b=>W.heap.size<=b/\b≠W.heap.size) w7 (.slice p m q) L'):=(tab_grown HU5.out hg7 (by show ¬ W.heap.size + 1<=B;omega)).imp (fun b hb _=>⟨by omega,by omega⟩);obtain ⟨g0,g1,g2,g3,g4,g5,g6,g7,g8,g9⟩:=rp_of HZ7.out;have gg:=fr_at HZ7.out;have HG7:Hid _:=grown_trans (grown_of_below HB5.out _) hg7;clear hB7 hg7
   (try go_wp2_with fail)
   first | (refine hK _ _ ?_;clear hK K) | skip
   try simp only [qS]
   refine wpAny_ready (rs:=[17]) (by kernel_rfl) (by simp) ?_;refine AllReady.cons rfl (fun K hK=>?_) AllReady.nil
   go_simp
   (try go_wp2_with fail)
   first | (refine hK _ _ ?_;clear hK K) | skip
   try simp only [qS]
   refine wpAny_done (by kernel_rfl) ?_ _;obtain ⟨Y,hY⟩:=qF ((((((((((w7.setCell ⟨W.heap.size,0,none⟩ (.int .i64 E)).setCell ⟨W.heap.size,1,none⟩ (.int .i64 0)).setCell ⟨W.heap.size,2,none⟩ (.int .i64 0)).setCell ⟨W.heap.size,3,none⟩ (.int .i64 0)).setCell ⟨W.heap.size,4,none⟩ (.int .i64 0)).setCell ⟨W.heap.size,5,none⟩ (.int .i64 0)).setCell ⟨W.heap.size,6,none⟩ (.int .i64 0)).setCell ⟨W.heap.size,7,none⟩ (.string ⟨#[]⟩)).setCell ⟨W.heap.size,8,none⟩ (.slice none 0 0)).setCell ⟨W.heap.size,9,none⟩ (.int .i64 0));rw [← hY];obtain ⟨A,hA⟩:=qF W.heap.size;have hYe:Y = w7.setCells A 0 (cV E 0 0 0 0 0 0):=by rw [hA];exact hY
   have HU8:Hid (TabAt (fun b=>W.heap.size<=b/\b≠A) w7 (.slice p m q) L'):=by show TabAt _ _ _ _;rw [hA];exact HU7.out
   rw [← hA] at HZ7 ⊢;have hAl:W.heap.size<=A:=by omega
   have HR:Hid (Y.heap[A]? = some (BRp E 0 0 0 0 0 0 ⟨#[]⟩ (.slice none 0 0) 0)/\Y.heap[w.heap.size]? = some (BIx x)/\Y.heap[w.heap.size + 1]? = some BR0/\W.heap.size<=A/\Y.heap[B]? = some (BTk (if E = 0 then .slice p m q else .slice ao n cap) vo vs dn cl c)/\(TabAt (fun b=>W.heap.size<=b/\b≠A) Y (.slice p m q) L'/\pl L' = T)/\w.grownBy Y (some B)):=⟨by rw [hYe];exact setCells_at (cV E 0 0 0 0 0 0) HZ7.out rfl,by rw [hYe];exact (setCells_off _ _ _ (by omega)).trans HX7.out,by rw [hYe];exact (setCells_off _ _ _ (by omega)).trans HR7.out,hAl,by rw [hYe];exact (setCells_off _ _ _ (by omega)).trans HB7.out,⟨by rw [hYe];exact setCells_tab (fun h=>h.2 rfl) _ _ _ HU8.out,HP5.out⟩,by rw [hYe];exact setCells_gr (.inl (by omega)) _ _ _ HG7.out⟩;clear hA hY hYe hAl HU8 HB7 HX7 HR7 HU7 HG7 HT5 HP5 HB5 HR5 HX5 HZ7 gg g0 g1 g2 g3 g4 g5 g6 g7 g8 g9 HU5 HZ5 h5s;revert HR;revert A Y L' q m p;exact hK0.out
 intro p m q L' Y A HR;obtain ⟨rA,rX,rR,hAW,rB,rT,rG⟩:=HR.out;have HBY:Hid _:=rB;have HTY:Hid _:=rT;have HGY:Hid _:=rG;clear HSG HC HV HG HT0 HA0 HX0 HR rB rT rG HB0;have hA1:A≠w.heap.size:=by omega
 have hA2:A≠w.heap.size + 1:=by omega
 have hA3:w.heap.size + 1≠A:=by omega
 have hB1:B≠A:=by omega
 have hB2:B≠w.heap.size + 1:=by omega
 have hlA:=(qL rA);have hlR:=(qL rR);obtain ⟨g0,g1,g2,g3,g4,g5,g6,g7,g8,g9⟩:=rp_of rR;have gg:=fr_at rR;obtain ⟨f0,f1,f2,f3,f4,f5,f6,f7,f8,f9⟩:=rp_of rA;have ff:=fr_at rA;have k1:=cell_at rX 1;have k2:=cell_at rX 2;have k3:=cell_at rX 3;have k4:=cell_at rX 4;simp at k1 k2 k3 k4;clear rA rX rR;go_wp2
 (try simp only [Exit.inBlock,Exit.then])
 refine bodyPost_ret (v:=VRp E 0 0 x.i.kind x.i.links x.i.size x.i.stamp ⟨#[]⟩ (.slice none 0 0) 0) ?_ rfl ⟨if E = 0 then .slice p m q else .slice ao n cap,rfl,?_,?_,?_⟩
 ·rw [results_cell1 rfl]
  go_simp
 ·repeat (with_reducible refine (Below.heap_setCell _ _ _ _ (show B≠w.heap.size + 1 from hB2)).trans ?_)
  repeat (with_reducible refine (Below.heap_setCell _ _ _ _ (show B≠A from hB1)).trans ?_)
  exact HBY.out
 ·have hT:=HT2.out
  by_cases hz:E = 0
  ·rw [if_pos hz] at hT ⊢;refine .inr ⟨L',?_,HTY.out.2.trans hT⟩;refine TabAt.imp ?_ (S:=fun b=>W.heap.size<=b/\b≠A) (fun b hb _=>by omega);refine setCells_tab (A:=w.heap.size + 1) (S:=fun b=>W.heap.size<=b/\b≠A) (by show ¬ (W.heap.size<=w.heap.size + 1/\_);omega) (cV E 0 0 x.i.kind x.i.links x.i.size x.i.stamp) 0 _ ?_;exact setCells_tab (A:=A) (S:=fun b=>W.heap.size<=b/\b≠A) (fun h=>h.2 rfl) [.int .i64 x.i.kind,.int .i64 x.i.links,.int .i64 x.i.size,.int .i64 x.i.stamp] 3 _ HTY.out.1
  ·rw [if_neg hz] at hT ⊢;exact .inl ⟨rfl,hT.symm⟩
 ·repeat (with_reducible refine gr_set ?_ (.inl (show w.heap.size<=w.heap.size + 1 from Nat.le_succ _)) _)
  repeat (with_reducible refine gr_set ?_ (.inl (show w.heap.size<=A by omega)) _)
  exact HGY.out
end Go.Proofs.YtneojimodomohaaGreat
