/- Cnt, Ins, Rea, as one. -/
import Derived.Maps.Own
import Derived.Maps.RangeWalk
import Derived.Test.YtggoccfddnpelaaGreatR5
import Derived.Test.YtggoccfddnpelaaGreatR7
namespace Go.Proofs.YtggoccfddnpelaaGreat
open Go.ChangeShapes Go.WideShapes Go.ChangeAt Go.RowKit Go.Deep It
set_option maxRecDepth 100000
theorem At.map {α:Type} {E:Enc α} {S:Nat->Prop} {w w':World} {v:Value} {l:List α} {r:Nat} {es:Array MapEntry} {clock:Nat} (hsz:0 < E.sz) (h:At E S w v l) (hr:w.heap[r]? = some (.map es clock)) (hg:w.grownBy w' (some r)):At E S w' v l:=by
  rcases h with h | ⟨b,off,cap,rfl,hS,hb,hp,hc,hm,hx⟩
  · exact .inl h
  · have hne : b ≠ r := by
      rintro rfl
      have hl:0 < (E.flat l).length:=by rw [E.flat_length];exact Nat.mul_pos hp hsz
      have:=hx 0 _ (List.getElem?_eq_getElem hl)
      unfold World.cell? at this
      simp only [hr] at this
      cases this
    exact .inr ⟨b,off,cap,rfl,hS,Nat.lt_of_lt_of_le hb hg.size,hp,hc,hm,fun j u hj=>(cell_block (hg.block b hb (fun e=>hne (by cases e;rfl)))).trans (hx j u hj)⟩
theorem HM.kept {w w':World} {r:Nat} {M:List ((Int × Int) × Int)} (h:HM w r M) (hk:w'.heap[r]? = w.heap[r]?):HM w' r M:=by
  obtain ⟨es,clock,hr,h1⟩:=h.out
  exact ⟨es,clock,hk.trans hr,h1⟩
theorem HM.lt {w:World} {r:Nat} {M:List ((Int × Int) × Int)} (h:HM w r M):r < w.heap.size:=by
  obtain ⟨es,clock,hr,_⟩:=h.out
  exact (Array.getElem?_eq_some_iff.1 hr).1
theorem HM.new (w:World):HM (w.alloc (.map #[] 0)) w.heap.size []:=⟨#[],0,World.alloc_heap_new w _,rfl,by simp,fun b hb=>by simp at hb⟩
section
variable {ops:Array Oper} {rest:List Oper} {o:Oper} {a:Act} {Q:Exit->Act->World->Prop}
theorem wpList_upd (w:World) (hg:o.guard = none) (m x v:Operand) (hop:o.op = Op.mapUpdate 164 m x v) (r:Nat) (M:List ((Int × Int) × Int)) (h:Int × Int) (u:Int) (hm:a.eval m = .map (some r)) (hx:a.eval x = VHh h) (hv:a.eval v = .int .i64 u) (hM:HM w r M)
    (hK:∀ w',HM w' r (mset M h u)->w.grownBy w' (some r)->wpList Tryz.prog ops Q rest (a.put o.dst undef) w'):wpList Tryz.prog ops Q (o :: rest) a w:=by
  refine wpList_plain hg fun K' hK'=>?_
  obtain ⟨w',hrun,r1,r2⟩:=run_update hM h u
  unfold Oper.wp
  simp [execOp,hop,hm,hx,hv,hrun,Result.andThen]
  exact hK' _ _ (hK w' r1 r2)
theorem wpList_rng (w:World) (hg:o.guard = none) (m:Operand) (hop:o.op = Op.range 164 m) (r:Nat) (M:List ((Int × Int) × Int)) (hm:a.eval m = .map (some r)) (hM:HM w r M)
    (hK:∀ es w',HR w' r w.heap.size M es #[]->w.grownBy w' none->wpList Tryz.prog ops Q rest (a.put o.dst (.pointer (some ⟨w.heap.size,0,none⟩))) w'):wpList Tryz.prog ops Q (o :: rest) a w:=by
  refine wpList_plain hg fun K' hK'=>?_
  obtain ⟨es,clock,hrun,r1⟩:=run_range hM
  unfold Oper.wp
  simp [execOp,hop,hm,hrun,Result.andThen]
  exact hK' _ _ (hK es _ r1 (World.grownBy_alloc _ _ none))
theorem wpList_nxt (w:World) (hg:o.guard = none) (it:Operand) (hop:o.op = Op.next it false) (r t:Nat) (M:List ((Int × Int) × Int)) (es:Array MapEntry) (seen:Array Nat) (hit:a.eval it = .pointer (some ⟨t,0,none⟩)) (h:HR w r t M es seen)
    (hDone:leftM es seen = []->wpList Tryz.prog ops Q rest (a.put o.dst (.tuple #[.bool false])) w)
    (hMore:∀ e p w',e∈leftM es seen->p∈M->e.val = .int .i64 p.2->HR w' r t M es (seen.push e.born)->w.grownBy w' (some t)->(Instr.entry (.pointer (some ⟨t,0,none⟩))).run Tryz.prog w' = .ok (.tuple #[VHh p.1,.int .i64 p.2]) w'->wpList Tryz.prog ops Q rest (a.put o.dst (.tuple #[.bool true,VHh p.1,.int .i64 p.2])) w'):wpList Tryz.prog ops Q (o :: rest) a w:=by
  refine wpList_plain hg fun K' hK'=>?_
  unfold Oper.wp
  rcases run_next h o.type with ⟨h0,hrun⟩ | ⟨e,he,p,hp,hk,hv,w',hrun,hr,hgr,hen⟩
  · simp [execOp, hop, hit, hrun, Result.andThen]
    exact hK' _ _ (hDone h0)
  · simp [execOp, hop, hit, hrun, Result.andThen]
    exact hK' _ _ (hMore e p w' he hp hv hr hgr hen)
end
set_option maxRecDepth 100000 in
set_option maxHeartbeats 8000000 in
theorem counted_any {S : Nat → Prop} (v : Value) (L : List Rw) (w : World) (hv : TabAt S w v L) (hright : It.right (pl L) = true) :
    Calls Tryz.prog 87 #[v] w fun e w'=>e = .returned (.bool (Sp.cntB (pl L)))/\Below w.heap.size w w':=by
  obtain ⟨⟨hL1,hL2⟩,hroot,hall⟩:=It.right_iff.1 hright
  rw [List.length_map] at hL1 hL2
  obtain ⟨ao,cap,rfl,hm,hx⟩:=hv.open
  obtain ⟨n,hn⟩:∃ n,L.length = n:=⟨_,rfl⟩
  have HN:Hid (L.length = n):=hn
  have HX:Hid (∀ i x,L[i]? = some x->(∃ b off,ao = some ⟨b,off,none⟩/\b < w.heap.size/\eight w b (off + i * 8) x)/\Good S w x):=hx
  have HV:Hid (TabAt S w (.slice ao L.length cap) L):=hv
  have HALL:Hid (∀ x∈pl L,one x = true):=hall
  obtain ⟨ans,hans⟩:∃ ans,Sp.cntB (pl L) = ans:=⟨_,rfl⟩
  have HANS:Hid (Sp.cntB (pl L) = ans):=hans
  rw [hans]
  obtain ⟨W0,hW0⟩:∃ W0,W0 = w.alloc (.map #[] 0):=⟨_,rfl⟩
  have hg0:w.grownBy W0 none:=by rw [hW0];exact World.grownBy_alloc _ _ none
  have HB0:Hid (Below w.heap.size w W0):=below_none hg0 (Nat.le_refl _)
  have HM0:Hid (HM W0 w.heap.size []):=by rw [hW0];exact HM.new w
  obtain ⟨r,hr⟩:∃ r,w.heap.size = r:=⟨_,rfl⟩
  have hmm:=@run_makeMap Tryz.prog
  rw [hn] at HV hL1 hL2 ⊢
  clear hv hx hright hroot hall hans hg0 hn hm
  go_enter Tryz.func87,Tryz.ntmps87
  go_wp2_with fail
  rw [← hW0]
  refine (used_any _ L _ (by have:=HV.out.up HB0.out;rw [← HN.out] at this ⊢;exact this) (by rw [HN.out];omega)).mono ?_
  rintro e w1 ⟨u,rfl,hu,hb1⟩
  have HB1:Hid (Below w.heap.size w w1):=HB0.out.trans (hb1.mono HB0.out.size)
  have HM1:Hid (HM w1 r []):=by rw [← hr];exact HM0.out.kept (hb1.block _ HM0.out.lt)
  have HU1:Hid (AtW EH w1 u (used (pl L))):=hu
  obtain ⟨ua,uc,rfl,-,-⟩:=hu.open
  obtain ⟨n1,hn1⟩:∃ n1,(used (pl L)).length = n1:=⟨_,rfl⟩
  have HN1:Hid ((used (pl L)).length = n1):=hn1
  have hn1b:n1<=24:=by have:=used_length (pl L);rw [List.length_map,HN.out] at this;omega
  rw [hn1] at HU1 ⊢
  have HRW:Hid (w.heap.size = r):=hr
  clear hu hb1 hmm hW0 hn1 HM0 HB0 hr
  go_wp2
  go_loopw [16] (fun i wr=>∃ k:Nat,k<=n1/\i = .int .i64 k/\Hid (HM wr r (Sp.startK (pl L) k))/\Hid (Sp.Small (Sp.startK (pl L) k))/\Hid (AtW EH wr (.slice ua n1 uc) (used (pl L)))/\Hid (Below w.heap.size w wr)) (fun i _=>n1 - (intOf i).toNat)
  case atStart=>exact ⟨0,Nat.zero_le _,rfl,HM1.out,Sp.Small.nil,HU1.out,HB1.out⟩
  case round =>
    obtain ⟨k,hk,rfl,HMk,HSM,HU,HB⟩:=hrel
    have hsz:=HB.out.size
    by_cases hlt:k < n1
    · obtain ⟨h, hhk⟩ : ∃ h, (used (pl L))[k]? = some h := ⟨_, List.getElem?_eq_getElem (by rw [HN1.out]; exact hlt)⟩
      have HHK:Hid ((used (pl L))[k]? = some h):=hhk
      obtain ⟨ua',uc',huv,-,huc⟩:=HU.out.open
      simp only [Value.slice.injEq] at huv
      obtain ⟨rfl,-,rfl⟩:=huv
      obtain ⟨bu,offu,rfl,-,hbu,hcu⟩:=huc k h hhk
      have d0:wr.cell? ⟨bu,offu + k * 2,none⟩ = some (.int .i64 h.1):=hcu 0 _ rfl
      have d1:wr.cell? ⟨bu,offu + k * 2 + 1,none⟩ = some (.int .i64 h.2):=hcu 1 _ rfl
      obtain ⟨i,y,hiy,hno,-,-⟩:=names_iff.1 (mem_used.1 (List.mem_of_getElem? hhk))
      have hiL:i < L.length:=by have:=(List.getElem?_eq_some_iff.1 hiy).1;rwa [List.length_map] at this
      obtain ⟨x,hxi⟩:∃ x,L[i]? = some x:=⟨_,List.getElem?_eq_getElem hiL⟩
      have hyx:y = x.i:=by have:=pl_get hxi;rw [hiy] at this;exact Option.some.inj this
      subst hyx
      have hone:=HALL.out x.i (List.mem_of_getElem? hiy)
      have hlb:0<=x.i.links/\x.i.links<=64:=by
        unfold one at hone
        simp only [Bool.and_eq_true] at hone
        rcases At.right_iff.1 hone.2.1 with ⟨_,h1,_⟩ | ⟨_,_,⟨_,h1⟩ | ⟨_,h1⟩⟩ <;> omega
      have HLK:Hid (Sp.lkOf (pl L) h.1 = x.i.links):=by
        show ((pl L)[h.1.toNat]?.getD zeroI).links = _
        rw [hno,show ((i:Int)).toNat = i by omega,hiy]
        rfl
      obtain ⟨⟨b,off,rfl,hB,hc⟩,-⟩:=HX.out i x hxi
      obtain ⟨c0,c1,c2,c3,c4,c5,c6,c7⟩:=hc.below HB.out hB
      have hlt':(k:Int) < (n1:Int):=by omega
      obtain ⟨hno1,hge⟩:=h
      simp only at hno
      subst hno
      have hin:(i:Int) < (n:Int):=by rw [← HN.out];omega
      have hbw:b < wr.heap.size:=by omega
      have HMA:Hid (HM (wr.alloc (BH (i:Int) hge)) r (Sp.startK (pl L) k)):=HMk.out.kept (Below.heap_alloc _ _ _ HMk.out.lt)
      obtain ⟨⟨z0,z1⟩,-⟩:=two_of (heap_alloc_new wr (BH (i:Int) hge))
      have e2:(wr.alloc (BH (i:Int) hge)).cell? ⟨b,off + i * 8 + 2,none⟩ = some (.int .i64 x.i.links):=(cell_older hbw _ _).trans c2
      have HS0:Hid ((fun V:World=>HM V r (Sp.startK (pl L) k)/\V.cell? ⟨wr.heap.size,0,none⟩ = some (.int .i64 (i:Int))/\V.cell? ⟨wr.heap.size,1,none⟩ = some (.int .i64 hge)/\V.cell? ⟨b,off + i * 8 + 2,none⟩ = some (.int .i64 x.i.links)) (wr.alloc (BH (i:Int) hge)).drew):=⟨HMA.out.kept rfl,z0,z1,e2⟩
      have HST:Hid (Sp.startK (pl L) (k + 1) = mset (Sp.startK (pl L) k) ((i:Int),hge) x.i.links):=by
        show Sp.startK (pl L) (k + 1) = _
        rw [Sp.startK_succ HHK.out,HLK.out]
      have HSM2:Hid (Sp.Small (Sp.startK (pl L) (k + 1))):=by rw [HST.out];exact HSM.out.set _ hlb.1 hlb.2
      clear hcu hhk hiy hxi hc hiL hone c0 c1 c3 c4 c5 c6 c7 hlb
      go_wp2_with fail
      refine Late.start (fun V=>HM V r (Sp.startK (pl L) k)/\V.cell? ⟨wr.heap.size,0,none⟩ = some (.int .i64 (i:Int))/\V.cell? ⟨wr.heap.size,1,none⟩ = some (.int .i64 hge)/\V.cell? ⟨b,off + i * 8 + 2,none⟩ = some (.int .i64 x.i.links)) 9 (by kernel_rfl) ?_
      refine Late.take 0 (.map (some r)) rfl (by kernel_rfl) (by kernel_rfl) (by kernel_rfl) (by kernel_rfl) rfl (fun V hV=>by obtain ⟨hV1,hV2,hV3,hV4⟩:=hV;go_simp) HS0.out ?_
      refine Late.take 1 (VHh ((i:Int),hge)) rfl (by kernel_rfl) (by kernel_rfl) (by kernel_rfl) (by kernel_rfl) rfl (fun V hV=>by obtain ⟨hV1,hV2,hV3,hV4⟩:=hV;go_simp) HS0.out ?_
      refine Late.take 2 (.slice (some ⟨b,off,none⟩) n cap) rfl (by kernel_rfl) (by kernel_rfl) (by kernel_rfl) (by kernel_rfl) rfl (fun V hV=>by obtain ⟨hV1,hV2,hV3,hV4⟩:=hV;go_simp) HS0.out ?_
      refine Late.take 3 (.pointer (some ⟨wr.heap.size,0,none⟩)) rfl (by kernel_rfl) (by kernel_rfl) (by kernel_rfl) (by kernel_rfl) rfl (fun V hV=>by obtain ⟨hV1,hV2,hV3,hV4⟩:=hV;go_simp) HS0.out ?_
      refine Late.take 4 (.int .i64 (i:Int)) rfl (by kernel_rfl) (by kernel_rfl) (by kernel_rfl) (by kernel_rfl) rfl (fun V hV=>by obtain ⟨hV1,hV2,hV3,hV4⟩:=hV;go_simp) HS0.out ?_
      refine Late.take 5 (.pointer (some ⟨b,off + i * 8,none⟩)) rfl (by kernel_rfl) (by kernel_rfl) (by kernel_rfl) (by kernel_rfl) rfl (fun V hV=>by obtain ⟨hV1,hV2,hV3,hV4⟩:=hV;go_simp) HS0.out ?_
      refine Late.take 6 (.pointer (some ⟨b,off + i * 8 + 1,none⟩)) rfl (by kernel_rfl) (by kernel_rfl) (by kernel_rfl) (by kernel_rfl) rfl (fun V hV=>by obtain ⟨hV1,hV2,hV3,hV4⟩:=hV;go_simp) HS0.out ?_
      refine Late.take 7 (.pointer (some ⟨b,off + i * 8 + 2,none⟩)) rfl (by kernel_rfl) (by kernel_rfl) (by kernel_rfl) (by kernel_rfl) rfl (fun V hV=>by obtain ⟨hV1,hV2,hV3,hV4⟩:=hV;go_simp) HS0.out ?_
      refine Late.take 8 (.int .i64 x.i.links) rfl (by kernel_rfl) (by kernel_rfl) (by kernel_rfl) (by kernel_rfl) rfl (fun V hV=>by obtain ⟨hV1,hV2,hV3,hV4⟩:=hV;go_simp) HS0.out ?_
      generalize haa:Act.put _ _ _ = aa
      refine Late.one 9 rfl (by kernel_rfl) rfl ?_
      have HMD:Hid (HM (wr.alloc (BH (i:Int) hge)).drew r (Sp.startK (pl L) k)):=HMA.out.kept rfl
      obtain ⟨w2,hrun,hm2,hg2⟩:=run_update HMD.out ((i:Int),hge) x.i.links
      have HM2:Hid (HM w2 r (Sp.startK (pl L) (k + 1))):=by rw [HST.out];exact hm2
      have hgd:wr.grownBy (wr.alloc (BH (i:Int) hge)).drew none:=⟨rfl,rfl,rfl,by simp,fun k hk _=>Below.heap_alloc wr _ k hk⟩
      have HU2:Hid (AtW EH w2 (.slice (some ⟨bu,offu,none⟩) n1 uc) (used (pl L))):=by
        obtain ⟨es,clock,he,_⟩:=HMD.out.out
        exact (HU.out.up (below_none hgd (Nat.le_refl _))).map (by decide) he hg2
      have HB2:Hid (Below w.heap.size w w2):=(HB.out.trans ((below_none hgd (Nat.le_refl _)).mono hsz)).grown hg2 (Nat.le_trans hsz hgd.size) (fun k e=>by cases e;rw [← HRW.out];exact Nat.le_refl _)
      have ea:aa.eval (.tmp 20) = .map (some r)/\aa.eval (.tmp 21) = VHh ((i:Int),hge)/\aa.eval (.tmp 28) = .int .i64 x.i.links:=by
        rw [← haa]
        simp [Act.eval,Act.put]
      simp only [List.getElem_toArray,List.getElem_cons_succ,List.getElem_cons_zero]
      unfold Oper.wp
      clear hm2 hg2 hgd
      simp only [execOp,ea.1,ea.2.1,ea.2.2,hrun,Sem.run_bind,Sem.run_pure,Result.andThen]
      refine ⟨fun h=>absurd rfl h,?_⟩
      refine Late.done (by kernel_rfl) ?_
      clear ea
      subst haa
      simp only [Exit.inBlock,Exit.then,Act.put,List.setIfInBounds_toArray]
      clear hrun z0 z1 e2
      go_wp2
      go_roundw
      case rel=>exact ⟨k + 1,by omega,by go_num,HM2.out,HSM2.out,HU2.out,HB2.out⟩
      case measure=>simp [intOf];omega
    · obtain rfl : n1 = k := by omega
      obtain ⟨x0,hx0⟩:∃ x,L[0]? = some x:=⟨_,List.getElem?_eq_getElem (by rw [HN.out];omega)⟩
      obtain ⟨⟨b,off,rfl,hB,hc⟩,-⟩:=HX.out 0 x0 hx0
      obtain ⟨c0,-⟩:=hc.below HB.out hB
      rw [Nat.zero_mul,Nat.add_zero] at c0
      have HG0:Hid (Sp.gen0 (pl L) = x0.i.gen):=by
        show ((pl L)[0]?.getD zeroI).gen = _
        rw [pl_get hx0]
        rfl
      have HST:Hid (Sp.start (pl L) = mset (Sp.startK (pl L) n1) ((0:Int),x0.i.gen) 0):=by
        show mset (Sp.startK (pl L) (used (pl L)).length) (0,Sp.gen0 (pl L)) 0 = _
        rw [HN1.out,HG0.out]
      have HSM2:Hid (Sp.Small (Sp.start (pl L))):=by rw [HST.out];exact HSM.out.set _ (by decide) (by decide)
      have hn0:(0:Int) < (n:Int):=by omega
      clear hc hx0
      go_wp2_with (at_mapUpdate;refine wpList_upd _ rfl _ _ _ rfl r (Sp.startK (pl L) n1) ((0:Int),x0.i.gen) 0 rfl rfl rfl HMk.out ?_;intro w2 hm2 hg2;have HM2:Hid (HM w2 r (Sp.start (pl L))):=(by rw [HST.out];exact hm2);have HB2:Hid (Below w.heap.size w w2):=HB.out.grown hg2 hsz (fun k e=>by cases e;rw [← HRW.out];exact Nat.le_refl _);clear hm2 hg2)
      clear HU HB HMk c0 hsz hB
      go_loopw [38] (fun i wr=>∃ (k:Nat) (M:List ((Int × Int) × Int)),k<=n/\i = .int .i64 k/\Hid (HM wr r M)/\Hid (Sp.Small M)/\Hid (Sp.eat (Sp.start (pl L)) (Sp.allEnts ((pl L).take k)) = some M)/\Hid (Below w.heap.size w wr)) (fun i _=>n - (intOf i).toNat)
      case atStart=>exact ⟨0,Sp.start (pl L),Nat.zero_le _,rfl,HM2.out,HSM2.out,rfl,HB2.out⟩
      case round =>
        obtain ⟨k,M,hk,rfl,HMM,HSS,HEAT,HB⟩:=hrel
        have hsz:=HB.out.size
        by_cases hlt:k < n
        · obtain ⟨x, hxk⟩ : ∃ x, L[k]? = some x := ⟨_, List.getElem?_eq_getElem (by rw [HN.out]; exact hlt)⟩
          have hkL:k < (pl L).length:=by rw [List.length_map,HN.out];exact hlt
          obtain ⟨⟨b',off',hbo,hB,hc⟩,hgood⟩:=HX.out k x hxk
          simp only [Option.some.injEq,Addr.mk.injEq,and_true] at hbo
          obtain ⟨rfl,rfl⟩:=hbo
          obtain ⟨c0,c1,c2,c3,c4,c5,c6,c7⟩:=hc.below HB.out hB
          have HEA:Hid (Sp.entsAt (pl L) k = x.i.ents):=(ents_at hxk).1
          obtain ⟨eo,ecap,hev,hem,hents⟩:=hgood.2.1.open
          simp only [Value.slice.injEq] at hev
          obtain ⟨rfl,hen,rfl⟩:=hev
          obtain ⟨m,hm⟩:∃ m,x.en = m:=⟨_,rfl⟩
          have HM':Hid (x.i.ents.length = m):=hen.symm.trans hm
          have hmm:m<=9223372036854775807:=by rw [← hm,hen];unfold maxLen at hem;omega
          have HENT:Hid (∀ j e,x.i.ents[j]? = some e->∃ b2 off2,x.ep = some ⟨b2,off2,none⟩/\b2 < w.heap.size/\ent4 w b2 (off2 + j * 4) e):=fun j e he=>by
            obtain ⟨b2,off2,h1,-,h3,hc⟩:=hents j e he
            exact ⟨b2,off2,h1,h3,hc 0 _ rfl,hc 1 _ rfl,hc 2 _ rfl,hc 3 _ rfl⟩
          obtain ⟨ep,hep⟩:∃ ep,x.ep = ep:=⟨_,rfl⟩
          have HEP:Hid (x.ep = ep):=hep
          have hlt':(k:Int) < (n:Int):=by omega
          have HSE:Hid (Sp.sofar (pl L) k m = Sp.allEnts ((pl L).take (k + 1))):=Sp.sofar_end hkL (by rw [HEA.out];exact HM'.out)
          obtain ⟨⟨q0,q1,q2,q3,q4,q5,q6,q7⟩,-⟩:=eight_of (heap_alloc_new wr (BIx x))
          rw [hep,hm] at q6
          have HMA:Hid (HM (wr.alloc (B8 x.i.gen x.i.kind x.i.links x.i.size x.i.stamp (.slice x.rp x.rn x.rc) (.slice ep m x.ec) x.i.next)) r M):=HMM.out.kept (Below.heap_alloc _ _ _ HMM.out.lt)
          have HBA:Hid (Below w.heap.size w (wr.alloc (B8 x.i.gen x.i.kind x.i.links x.i.size x.i.stamp (.slice x.rp x.rn x.rc) (.slice ep m x.ec) x.i.next))):=HB.out.alloc hsz _
          have HE0:Hid (Sp.eat (Sp.start (pl L)) (Sp.sofar (pl L) k 0) = some M):=by rw [Sp.sofar_zero];exact HEAT.out
          clear hc hgood hents hem hxk hen q0 q1 q2 q3 q4 q5 q7
          go_wp2
          go_loopw [45] (fun i wr=>∃ (j:Nat) (M:List ((Int × Int) × Int)),j<=m/\i = .int .i64 j/\Hid (HM wr r M)/\Hid (Sp.Small M)/\Hid (Sp.eat (Sp.start (pl L)) (Sp.sofar (pl L) k j) = some M)/\Hid (Below w.heap.size w wr)) (fun i _=>m - (intOf i).toNat)
          case atStart=>exact ⟨0,M,Nat.zero_le _,rfl,HMA.out,HSS.out,HE0.out,HBA.out⟩
          case round =>
            clear HMA HBA HE0 HMM HSS HEAT HB hsz c0 c1 c2 c3 c4 c5 c6 c7 q6
            obtain ⟨j,M,hj,rfl,HMM,HSS,HEAT,HB⟩:=hrel
            have hsz:=HB.out.size
            by_cases hlj:j < m
            · obtain ⟨e, hej⟩ : ∃ e, x.i.ents[j]? = some e := ⟨_, List.getElem?_eq_getElem (by rw [HM'.out]; exact hlj)⟩
              have HEJ:Hid ((Sp.entsAt (pl L) k)[j]? = some e):=by rw [HEA.out];exact hej
              obtain ⟨b2,off2,hep2,hl2,h4⟩:=HENT.out j e hej
              obtain rfl:ep = some ⟨b2,off2,none⟩:=HEP.out.symm.trans hep2
              have d0:=(HB.out.cell (p:=⟨b2,off2 + j * 4,none⟩) hl2).trans h4.1
              have d1:=(HB.out.cell (p:=⟨b2,off2 + j * 4 + 1,none⟩) hl2).trans h4.2.1
              have d2:=(HB.out.cell (p:=⟨b2,off2 + j * 4 + 2,none⟩) hl2).trans h4.2.2.1
              have d3:=(HB.out.cell (p:=⟨b2,off2 + j * 4 + 3,none⟩) hl2).trans h4.2.2.2
              have hlj':(j:Int) < (m:Int):=by omega
              obtain ⟨⟨g0,g1,g2,g3⟩,-⟩:=ent_of (heap_alloc_new wr (BEn e))
              have HMA:Hid (HM (wr.alloc (BEn e)) r M):=HMM.out.kept (Below.heap_alloc _ _ _ HMM.out.lt)
              have HBA:Hid (Below w.heap.size w (wr.alloc (BEn e))):=HB.out.alloc hsz _
              obtain ⟨mv,hmv⟩:∃ mv,mval M e.2.2 = mv:=⟨_,rfl⟩
              have hmvb:=HSS.out.val e.2.2
              rw [hmv] at hmvb
              have hlk:(Instr.lookup 164 (.map (some r)) (.agg #[.int .i64 e.2.2.1,.int .i64 e.2.2.2]) false).run Tryz.prog (wr.alloc (BEn e)) = .ok (.int .i64 mv) (wr.alloc (BEn e)):=by
                have:=run_lookup HMA.out e.2.2
                rw [hmv] at this
                exact this
              clear hej h4 hep2
              by_cases hz:mv = 0
              · subst hz
                have HA:Hid (ans = false):=HANS.out.symm.trans (Sp.eat_no hkL HEJ.out HEAT.out hmv)
                clear hmv
                go_wp2
                go_ret
                rw [HA.out]
                exact ⟨rfl,HBA.out⟩
              · have hzb : (mv == 0) = false := beq_eq_false_iff_ne.2 hz
                obtain ⟨fi,hfi⟩:=Sp.find_val (M:=M) (g:=e.2.2) (by rw [hmv];exact hz)
                rw [hmv] at hfi
                have HE2:Hid (Sp.eat (Sp.start (pl L)) (Sp.sofar (pl L) k (j + 1)) = some (mset M e.2.2 (mv - 1))):=by
                  have:=Sp.eat_yes HEJ.out HEAT.out (by rw [hmv];exact hz)
                  rw [hmv] at this
                  exact this
                have HS2:Hid (Sp.Small (mset M e.2.2 (mv - 1))):=HSS.out.set _ (by omega) (by omega)
                have HMV:Hid (mval M e.2.2 = mv):=hmv
                have HFI:Hid (mfind M e.2.2 0 = some (fi,mv)):=hfi
                clear hfi hmv hz
                go_wp2_with fail
                have hwm:IntKind.i64.wrap (mv - 1) = mv - 1:=IntWalk.i64_in _ (by omega)
                have HS7:Hid ((fun V:World=>HM V r M/\V.heap[r]? = (wr.alloc (BEn e)).heap[r]?/\V.cell? ⟨wr.heap.size,2,none⟩ = some (.int .i64 e.2.2.1)/\V.cell? ⟨wr.heap.size,3,none⟩ = some (.int .i64 e.2.2.2)) (wr.alloc (BEn e)).drew):=⟨HMA.out.kept rfl,rfl,g2,g3⟩
                clear hlk
                have hlk:∀ V,HM V r M->(Instr.lookup 164 (.map (some r)) (.agg #[.int .i64 e.2.2.1,.int .i64 e.2.2.2]) false).run Tryz.prog V = .ok (.int .i64 mv) V:=fun V hV=>by
                  have:=run_lookup hV e.2.2
                  rw [HMV.out] at this
                  exact this
                obtain ⟨st,hst1,hst2⟩:=run_entry HMA.out HFI.out
                refine Late.start (fun V=>HM V r M/\V.heap[r]? = (wr.alloc (BEn e)).heap[r]?/\V.cell? ⟨wr.heap.size,2,none⟩ = some (.int .i64 e.2.2.1)/\V.cell? ⟨wr.heap.size,3,none⟩ = some (.int .i64 e.2.2.2)) 7 (by kernel_rfl) ?_
                refine Late.take 0 (.map (some r)) rfl (by kernel_rfl) (by kernel_rfl) (by kernel_rfl) (by kernel_rfl) rfl (fun V hV=>by obtain ⟨hV1,hV2,hV3,hV4⟩:=hV;have hl:=hlk V hV1;go_simp) HS7.out ?_
                refine Late.take 1 (.pointer (some ⟨wr.heap.size,2,none⟩)) rfl (by kernel_rfl) (by kernel_rfl) (by kernel_rfl) (by kernel_rfl) rfl (fun V hV=>by obtain ⟨hV1,hV2,hV3,hV4⟩:=hV;have hl:=hlk V hV1;go_simp) HS7.out ?_
                refine Late.take 2 (VHh (e.2.2.1,e.2.2.2)) rfl (by kernel_rfl) (by kernel_rfl) (by kernel_rfl) (by kernel_rfl) rfl (fun V hV=>by obtain ⟨hV1,hV2,hV3,hV4⟩:=hV;have hl:=hlk V hV1;go_simp) HS7.out ?_
                refine Late.take 3 (.int .i64 mv) rfl (by kernel_rfl) (by kernel_rfl) (by kernel_rfl) (by kernel_rfl) rfl (fun V hV=>by obtain ⟨hV1,hV2,hV3,hV4⟩:=hV;have hl:=hlk V hV1;go_simp) HS7.out ?_
                refine Late.take 4 (.int .i64 (mv - 1)) rfl (by kernel_rfl) (by kernel_rfl) (by kernel_rfl) (by kernel_rfl) rfl (fun V hV=>by obtain ⟨hV1,hV2,hV3,hV4⟩:=hV;have hl:=hlk V hV1;go_simp) HS7.out ?_
                generalize haa:Act.put _ _ _ = aa
                refine Late.one 5 rfl (by kernel_rfl) rfl ?_
                have ea:aa.eval (.tmp 54) = .map (some r)/\aa.eval (.tmp 56) = VHh e.2.2:=by
                  rw [← haa]
                  simp [Act.eval,Act.put]
                have hrun:=hst1 (wr.alloc (BEn e)).drew (HMA.out.kept rfl) rfl
                simp only [List.getElem_toArray,List.getElem_cons_succ,List.getElem_cons_zero]
                unfold Oper.wp
                simp only [execOp,ea.1,ea.2,hrun,Sem.run_bind,Sem.run_pure,Result.andThen]
                refine ⟨fun _=>HS7.out,?_⟩
                clear ea hrun
                subst haa
                refine Late.take 6 (.int .i64 (st:Int)) rfl (by kernel_rfl) (by kernel_rfl) (by kernel_rfl) (by kernel_rfl) rfl (fun V hV=>by go_simp) HS7.out ?_
                generalize haa:Act.put _ _ _ = aa
                refine Late.one 7 rfl (by kernel_rfl) rfl ?_
                have ea:aa.eval (.tmp 54) = .map (some r)/\aa.eval (.tmp 60) = .int .i64 (st:Int)/\aa.eval (.tmp 58) = .int .i64 (mv - 1):=by
                  rw [← haa]
                  simp [Act.eval,Act.put]
                obtain ⟨w4,hrun,hm4,hg4⟩:=hst2 (wr.alloc (BEn e)).drew (mv - 1) rfl
                have HM4:Hid (HM w4 r (mset M e.2.2 (mv - 1))):=hm4
                have hgd:wr.grownBy (wr.alloc (BEn e)).drew none:=⟨rfl,rfl,rfl,by simp,fun k hk _=>Below.heap_alloc wr _ k hk⟩
                have HB4:Hid (Below w.heap.size w w4):=(HB.out.trans ((below_none hgd (Nat.le_refl _)).mono hsz)).grown hg4 (Nat.le_trans hsz hgd.size) (fun k e=>by cases e;rw [← HRW.out];exact Nat.le_refl _)
                simp only [List.getElem_toArray,List.getElem_cons_succ,List.getElem_cons_zero]
                unfold Oper.wp
                simp only [execOp,ea.1,ea.2.1,ea.2.2,hrun,Sem.run_bind,Sem.run_pure,Result.andThen]
                refine ⟨fun h=>absurd rfl h,?_⟩
                refine Late.done (by kernel_rfl) ?_
                clear ea hrun hm4 hg4 hgd hst1 hst2 hlk
                subst haa
                simp only [Exit.inBlock,Exit.then,Act.put,List.setIfInBounds_toArray]
                go_wp2
                go_roundw
                case rel=>exact ⟨j + 1,mset M e.2.2 (mv - 1),by omega,by go_num,HM4.out,HS2.out,HE2.out,HB4.out⟩
                case measure=>simp [intOf];omega
            · obtain rfl : m = j := by omega
              have HE2:Hid (Sp.eat (Sp.start (pl L)) (Sp.allEnts ((pl L).take (k + 1))) = some M):=by rw [← HSE.out];exact HEAT.out
              go_wp2
              go_roundw
              case rel=>exact ⟨k + 1,M,by omega,by go_num,HMM.out,HSS.out,HE2.out,HB.out⟩
              case measure=>simp [intOf];omega
        · obtain rfl : n = k := by omega
          have HFIN:Hid (M.all (fun p=>p.2 == 0) = ans):=(Sp.eat_end (by rw [List.length_map];exact HN.out) HEAT.out).symm.trans HANS.out
          obtain ⟨t,ht⟩:∃ t,wr.heap.size = t:=⟨_,rfl⟩
          go_wp2_with (at_range;refine wpList_rng _ rfl _ rfl r M rfl HMM.out ?_;intro es w3 hr3 hg3)
          have HR3:Hid (HR w3 r t M es #[]):=by rw [← ht];exact hr3
          have HB3:Hid (Below w.heap.size w w3):=HB.out.trans ((below_none hg3 (Nat.le_refl _)).mono hsz)
          have HTW:Hid (w.heap.size<=t):=by rw [← ht];exact hsz
          clear hr3 hg3 HB HMM
          go_frame
          rw [ht]
          clear ht hsz
          go_loopw [11] (fun _ wr=>∃ seen,Hid (HR wr r t M es seen)/\Hid (∀ e∈es.toList,seen.contains e.born = true->e.val = .int .i64 0)/\Hid (Below w.heap.size w wr)) (fun _ wr=>match wr.heap[t]? with | some (.mapIter _ _ seen _)=>(leftM es seen).length | _=>0)
          case atStart=>exact ⟨#[],HR3.out,fun e _ h=>by simp at h,HB3.out⟩
          case round =>
            obtain ⟨seen,HRS,HZ,HB⟩:=hrel
            go_wp2_with (at_next;refine wpList_nxt _ rfl _ rfl r t M es seen rfl HRS.out ?_ ?_)
            · intro h0
              have HA:Hid (ans = true):=by
                show ans = true
                rw [← HFIN.out]
                refine List.all_eq_true.2 fun p hp=>?_
                have hpm:(VHh p.1,Value.int .i64 p.2)∈es.toList.map (fun e=>(e.key,e.val)):=by rw [HRS.out.rows];exact List.mem_map.2 ⟨p,hp,rfl⟩
                obtain ⟨e,he,hev⟩:=List.mem_map.1 hpm
                simp only [Prod.mk.injEq] at hev
                have hse:seen.contains e.born = true:=by
                  cases hc:seen.contains e.born with
                  | true=>rfl
                  | false =>
                    have:e∈leftM es seen:=List.mem_filter.2 ⟨he,by rw [hc];rfl⟩
                    rw [h0] at this
                    cases this
                have:=HZ.out e he hse
                rw [hev.2] at this
                simp only [Value.int.injEq,true_and] at this
                simp [this]
              clear h0
              go_wp2
              go_ret
              rw [HA.out]
              exact ⟨rfl,HB.out⟩
            · intro e a0 a1 pv w' he hp hv hr' hgr hen
              have HRN:Hid (HR w' r t M es (seen.push e.born)):=hr'
              have HBN:Hid (Below w.heap.size w w'):=HB.out.grown hgr HB.out.size (fun k e=>by cases e;exact HTW.out)
              have HLE:Hid ((leftM es (seen.push e.born)).length < (leftM es seen).length):=leftM_less he
              have HEV:Hid (e.val = .int .i64 pv):=hv
              have HEB:Hid (e∈es.toList):=(List.mem_filter.1 he).1
              have HPM:Hid (((a0,a1),pv)∈M):=hp
              clear hr' hgr he hv hp
              by_cases hz:pv = 0
              · have hzb : (pv != 0) = false := by simp [hz]
                have HZ2:Hid (∀ x∈es.toList,(seen.push e.born).contains x.born = true->x.val = .int .i64 0):=fun x hx hc=>by
                  by_cases hb:x.born = e.born
                  · have hxe : x = e := by
                      obtain ⟨i,hi⟩:=List.mem_iff_getElem?.1 hx
                      obtain ⟨j,hj⟩:=List.mem_iff_getElem?.1 HEB.out
                      have h3:(es.toList.map (·.born))[i]? = (es.toList.map (·.born))[j]?:=by rw [List.getElem?_map,List.getElem?_map,hi,hj];simp [hb]
                      have hij:=(List.getElem?_inj (by rw [List.length_map];exact (List.getElem?_eq_some_iff.1 hi).1) HRN.out.born).1 h3
                      subst hij
                      rw [hi] at hj
                      exact Option.some.inj hj
                    rw [hxe,HEV.out,hz]
                  · refine HZ.out x hx ?_
                    simp only [Array.contains_push] at hc
                    simpa [hb] using hc
                clear hz
                go_wp2
                go_roundw
                case rel=>exact ⟨_,HRN.out,HZ2.out,HBN.out⟩
                case measure =>
                  obtain ⟨c1,-,ht1,-⟩:=HRN.out.it
                  obtain ⟨c2,-,ht2,-⟩:=HRS.out.it
                  rw [ht1,ht2]
                  exact HLE.out
              · have hzb : (pv != 0) = true := by simp [hz]
                have HA:Hid (ans = false):=by
                  show ans = false
                  rw [← HFIN.out]
                  refine List.all_eq_false.2 ⟨_,HPM.out,?_⟩
                  simp [hz]
                clear hz
                go_wp2
                go_ret
                rw [HA.out]
                exact ⟨rfl,HBN.out⟩
end Go.Proofs.YtggoccfddnpelaaGreat
namespace Go.Proofs.YtggoccfddnpelaaGreat
open Go.ChangeShapes Go.WideShapes Go.ChangeAt Go.RowKit Go.Deep Go.Shelf It
set_option maxRecDepth 100000
attribute [local go_sem] Oper.semAt_some
theorem tab_low {S:Nat->Prop} {w:World} {v:Value} {L:List Rw} (h:TabAt S w v L):TabAt (fun b=>b < w.heap.size) w v L :=
  ⟨h.1.imp fun _ _ hb=>hb,fun x hx=>⟨(h.2 x hx).1.imp fun _ _ hb=>hb,(h.2 x hx).2.1.imp fun _ _ hb=>hb,(h.2 x hx).2.2⟩⟩
theorem tab_up {n₀:Nat} {w V:World} {v:Value} {L:List Rw} (h:TabAt (fun b=>b < n₀) w v L) (hg:w.grownBy V none):TabAt (fun b=>b < n₀) V v L :=
  have k:∀ b,b < n₀->b < w.heap.size->V.heap[b]? = w.heap[b]?/\b < n₀:=fun b hb hl=>⟨hg.block b hl (by simp),hb⟩
  ⟨h.1.keep hg.size k,fun x hx=>⟨(h.2 x hx).1.keep hg.size k,(h.2 x hx).2.1.keep hg.size k,(h.2 x hx).2.2⟩⟩
/-- The three boxes that folders lays. -/
abbrev box3 (V:World) (v:Value) (no:Int) (path:ByteArray):World:=((V.alloc (.cells #[v] 23)).alloc (.cells #[.int .i64 no] 3)).alloc (.cells #[.string path] 9)
theorem folders_seq {L:List Rw} {ao:Option Addr} {cap n₀ Bx f no:Nat} {path:ByteArray} {V2:World} (hdeep:Sp.deep (pl L) f no) (hpath:path.size + 33 * f<=1000) (hLn:L.length<=1000) (hn0:n₀<=V2.heap.size) (htab:TabAt (fun b=>b < n₀) V2 (.slice ao L.length cap) L) (hb:HasBox Bx V2) (hsafe:∀ b,b < n₀->¬ Mine Bx V2 b) :
    SeqOwn Tryz.prog 151 #[PT (V2.heap.size + 1),PT (V2.heap.size + 1 + 1),PT V2.heap.size] encF Bx (Sp.walk (pl L) f no path) (box3 V2 (.slice ao L.length cap) no path)/\V2.grownBy (box3 V2 (.slice ao L.length cap) no path) none/\(box3 V2 (.slice ao L.length cap) no path).heap.size = V2.heap.size + 3/\Kp Bx V2 (box3 V2 (.slice ao L.length cap) no path)/\HasBox Bx (box3 V2 (.slice ao L.length cap) no path):=by
  have hg3:V2.grownBy (box3 V2 (.slice ao L.length cap) no path) none:=grown_trans (grown_trans (World.grownBy_alloc _ _ none) (World.grownBy_alloc _ _ none)) (World.grownBy_alloc _ _ none)
  have hk3:Kp Bx V2 (box3 V2 (.slice ao L.length cap) no path):=Kp.still hb hg3
  have t0:(box3 V2 (.slice ao L.length cap) no path).cell? ⟨V2.heap.size,0,none⟩ = some (.slice ao L.length cap):=by
    refine (cell_older (by simp;omega) _ 0).trans ((cell_older (by simp) _ 0).trans ?_)
    simp only [World.cell?,heap_alloc_new V2 (.cells #[.slice ao L.length cap] 23)]
    rfl
  have t1:(box3 V2 (.slice ao L.length cap) no path).cell? ⟨V2.heap.size + 1,0,none⟩ = some (.int .i64 (no:Int)):=by
    refine (cell_older (by simp) _ 0).trans ?_
    have:=heap_alloc_new (V2.alloc (.cells #[.slice ao L.length cap] 23)) (.cells #[.int .i64 (no:Int)] 3)
    rw [show (V2.alloc (.cells #[.slice ao L.length cap] 23)).heap.size = V2.heap.size + 1 by simp] at this
    simp only [World.cell?,this]
    rfl
  have t2:(box3 V2 (.slice ao L.length cap) no path).cell? ⟨V2.heap.size + 1 + 1,0,none⟩ = some (.string path):=by
    have:=heap_alloc_new ((V2.alloc (.cells #[.slice ao L.length cap] 23)).alloc (.cells #[.int .i64 (no:Int)] 3)) (.cells #[.string path] 9)
    rw [show ((V2.alloc (.cells #[.slice ao L.length cap] 23)).alloc (.cells #[.int .i64 (no:Int)] 3)).heap.size = V2.heap.size + 1 + 1 by simp] at this
    simp only [World.cell?,this]
    rfl
  exact ⟨iter_in L ao cap n₀ Bx f no path _ _ _ _ hdeep hpath hLn (Nat.le_trans hn0 hk3.size) (tab_kp htab hk3 hsafe) (hk3.box hb) (fun b h=>hk3.safe (hsafe b h) (Nat.lt_of_lt_of_le h hn0)) ⟨t1,t2,t0⟩ ⟨hb.new hg3 (by omega),hb.new hg3 (by omega),hb.new hg3 (Nat.le_refl _)⟩,hg3,by simp,hk3,hk3.box hb⟩
attribute [local go_sem] Oper.semAt_some
/-- A store into the box alone. -/
theorem kp_set {V:World} {Bx:Nat} {t:TypeId} {u u':Value} (h:Boxed V Bx t u) (hu':∀ k,u'.ownBlock≠some k):Kp Bx V (V.setCell ⟨Bx,0,none⟩ u'):=by
  have hg:=grownBy_setCell' V Bx u'
  have hs:(V.setCell ⟨Bx,0,none⟩ u').cell? ⟨Bx,0,none⟩ = some u':=(h.set u').cell
  refine ⟨hg.os,hg.tape,hg.output,hg.size,fun _=>⟨u',hs,fun k e=>absurd e (hu' k)⟩,fun k hk hn=>hg.block k hk (fun e=>hn (.inl (by cases e;rfl))),fun k _ hm=>?_,fun k o hk ho=>(KeepsOthers.setCell V _ _).same k o hk ho⟩
  rcases hm with rfl | ⟨v,hv,he⟩
  · exact .inl rfl
  · rw [hs] at hv
    cases hv
    exact absurd he (hu' k)
set_option maxRecDepth 100000 in
set_option maxHeartbeats 4000000 in
theorem reached_any {S : Nat → Prop} (v : Value) (L : List Rw) (w : World) (hv : TabAt S w v L) (hd : Sp.deep (pl L) 24 0) (hL : L.length ≤ 24) (hlen : (Sp.walk (pl L) 24 0 ⟨#[]⟩).length ≤ 24) :
    Calls Tryz.prog 88 #[v] w fun e w'=>e = .returned (.bool (((Sp.walk (pl L) 24 0 ⟨#[]⟩).length:Int) - ((pl L).countP (fun x=>x.kind == 2):Nat) == 0))/\Below w.heap.size w w':=by
  obtain ⟨ao,cap,rfl,-,hx⟩:=hv.open
  obtain ⟨W0,hW0⟩:∃ W0,W0 = w.alloc (.cells #[.int .i64 0] 3):=⟨_,rfl⟩
  have hg0:w.grownBy W0 none:=by rw [hW0];exact World.grownBy_alloc _ _ none
  have hs0:W0.heap.size = w.heap.size + 1:=by rw [hW0];simp
  have hR:Boxed W0 w.heap.size 3 (.int .i64 0):=by rw [hW0];exact Boxed.new w 3 _
  have hb0:HasBox w.heap.size W0:=⟨_,hR.cell,fun k e=>by cases e⟩
  have hmine:∀ k,k≠w.heap.size->¬ Mine w.heap.size W0 k:=fun k hk h=>by
    rcases h with h | ⟨u,hu,he⟩
    · exact hk h
    · rw [hR.cell] at hu
      cases hu
      cases he
  obtain ⟨hseq,hg3,hs3,hk3,hb3⟩:=folders_seq (n₀:=w.heap.size) (Bx:=w.heap.size) (f:=24) (no:=0) (path:=⟨#[]⟩) (V2:=W0) hd (by decide) (by omega) (by omega) (tab_up (tab_low hv) hg0) hb0 (fun b hb=>hmine b (by omega))
  unfold box3 at hseq hg3 hs3 hk3 hb3
  obtain ⟨V3,hV3⟩:∃ V3,V3 = ((W0.alloc (.cells #[.slice ao L.length cap] 23)).alloc (.cells #[.int .i64 ((0:Nat):Int)] 3)).alloc (.cells #[.string ⟨#[]⟩] 9):=⟨_,rfl⟩
  rw [← hV3] at hseq hg3 hs3 hk3 hb3
  have HSEQ:Hid (SeqOwn Tryz.prog 151 #[PT (W0.heap.size + 1),PT (W0.heap.size + 1 + 1),PT W0.heap.size] encF w.heap.size (Sp.walk (pl L) 24 0 ⟨#[]⟩) V3):=hseq
  have HB3:Hid (Below w.heap.size w V3):=below_none (grown_trans hg0 hg3) (Nat.le_refl _)
  have HR3:Hid (Boxed V3 w.heap.size 3 (.int .i64 0)):=hR.kept hg3 (by simp)
  have HS3:Hid (w.heap.size < V3.heap.size):=by show w.heap.size < V3.heap.size;omega
  obtain ⟨xs,hxs⟩:∃ xs,Sp.walk (pl L) 24 0 ⟨#[]⟩ = xs:=⟨_,rfl⟩
  rw [hxs] at HSEQ hlen ⊢
  obtain ⟨r,hr⟩:∃ r,((xs.length:Int) - ((pl L).countP (fun x=>x.kind == 2):Nat) == 0) = r:=⟨_,rfl⟩
  rw [hr]
  have HRV:Hid (((xs.length:Int) - ((pl L).countP (fun x=>x.kind == 2):Nat) == 0) = r):=hr
  have HX:Hid (∀ i x,L[i]? = some x->(∃ b off,ao = some ⟨b,off,none⟩/\b < w.heap.size/\eight w b (off + i * 8) x)/\Good S w x):=hx
  obtain ⟨n,hn⟩:∃ n,L.length = n:=⟨_,rfl⟩
  have HN:Hid (L.length = n):=hn
  rw [hn,show ((0:Nat):Int) = 0 from rfl] at hV3
  rw [hn] at hL ⊢
  clear hv hd hseq hg3 hk3 hR hb0 hmine hg0 hxs hs0 hs3 hr hx hn
  refine (callsIn_wide (n:=9)).1 ?_
  refine callsIn_of_wp_marks Tryz.func88 rfl trivial ?_
  simp only [Tryz.ntmps88,List.size_toArray,List.length_cons,List.length_nil,Nat.reduceAdd,Nat.reduceSub,Array.replicate_succ,Array.replicate_zero,List.push_toArray,List.append_toArray,List.nil_append,List.cons_append]
  gi_wp2
  rw [← hW0]
  refine ⟨trivial,?_⟩
  refine CallsIn.mono (callsIn_wide.2 (folders_any _ _ _ _ ⟨_,_,_,rfl⟩)) ?_
  rintro e' w' ⟨rfl,rfl⟩
  rw [← hV3]
  clear hV3 hW0
  gi_wp2
  refine range_law (gf:=151) (lb:=#[PT (W0.heap.size + 1),PT (W0.heap.size + 1 + 1),PT W0.heap.size]) (encs:=encF) (Bx:=w.heap.size) (xs:=xs) rfl (enters_of Tryz.func151 (by kernel_rfl) rfl) hb3 HSEQ.out (fun _=>rfl)
    (fun pre V=>Boxed V w.heap.size 3 (.int .i64 (pre.length:Int))/\Kp w.heap.size V3 V/\Below w.heap.size w V) (fun _ _=>False)
    (fun t A B row hs hg hr=>⟨(boxed_own w.heap.size 3 (fun t:List (Nat × ByteArray)=>.int .i64 (t.length:Int))).from _ t A B row hs.1 hg hr,kp_own (β:=Unit) hb3 (Nat.le_refl _) () A B row hs.2.1 hg hr,ownFrom_below (β:=Unit) (Nat.le_refl _) (Nat.le_of_lt HS3.out) () A B row hs.2.2 hg hr⟩)
    (fun t A B row hs hg hr=>hs)
    ⟨HR3.out,Kp.refl _ _,HB3.out⟩
    (fun z=>{ tmps:=#[.slice ao n cap,undef,.bool false,PT w.heap.size,undef,undef,.slice ao n cap,.func (.func 151) #[] #[PT (W0.heap.size + 1),PT (W0.heap.size + 1 + 1),PT W0.heap.size],.int .i64 (z.1:Int),.string z.2,undef,undef,undef,undef,undef,undef,undef,undef,undef,undef,undef,undef,undef,undef,undef],defers:=[] }) ?assign ?body ?done ?stop
  case assign =>
    intro l' m' z V4 K hK
    unfold encF
    gi_wp2
    simp
    exact hK
  case body =>
    rintro l' m' pre z V4 hl' hpz ⟨hR4,hK4,hB4⟩
    have hpl:pre.length < 24:=by
      have:=hpz.length_le
      simp only [List.length_append,List.length_cons,List.length_nil] at this
      omega
    have cr:=hR4.cell
    have fr:=hR4.frozen
    have HR4:Hid (Boxed V4 w.heap.size 3 (.int .i64 (pre.length:Int))):=hR4
    have HK4:Hid (Kp w.heap.size V3 V4):=hK4
    have HB4:Hid (Below w.heap.size w V4):=hB4
    have HLN:Hid ((pre ++ [z]).length = pre.length + 1):=by show (pre ++ [z]).length = pre.length + 1;simp
    obtain ⟨pl',hpl'⟩:∃ k,pre.length = k:=⟨_,rfl⟩
    rw [hpl'] at cr hpl
    have HPL:Hid (pre.length = pl'):=hpl'
    clear hR4 hK4 hB4 hpz hpl'
    gi_wp2
    have hks:Kp w.heap.size V4 (V4.setCell ⟨w.heap.size,0,none⟩ (.int .i64 ((pl':Int) + 1))):=kp_set HR4.out (by intro k e;cases e)
    refine ⟨hks,?_,HK4.out.trans hks,HB4.out.setCell (p:=⟨w.heap.size,0,none⟩) (Nat.le_refl _) _⟩
    rw [HLN.out,HPL.out]
    exact HR4.out.set _
  case done =>
    rintro D V5 hD ⟨hR5,hK5,hB5⟩ hdf
    have HD5:Hid (V5.heap[D]? = some (.deferred (some []))/\w.heap.size < D):=⟨hdf,Nat.lt_of_lt_of_le HS3.out hD⟩
    have HB5:Hid (Below w.heap.size w V5):=hB5
    have HR5:Hid (Boxed V5 w.heap.size 3 (.int .i64 (xs.length:Int))):=hR5
    clear hR5 hK5 hB5 hdf hD
    gi_wp2
    gi_loopw [14] (fun i wr=>∃ k:Nat,k<=n/\i = .int .i64 k/\Hid (Boxed wr w.heap.size 3 (.int .i64 ((xs.length:Int) - ((pl (L.take k)).countP (fun x=>x.kind == 2):Nat))))/\Hid (Below w.heap.size w wr)/\Hid (wr.heap[D]? = some (.deferred (some [])))) (fun i _=>n - (intOf i).toNat)
    case atStart=>exact ⟨0,Nat.zero_le _,rfl,(show Boxed V5 w.heap.size 3 (.int .i64 ((xs.length:Int) - ((pl (L.take 0)).countP (fun x=>x.kind == 2):Nat))) from by simpa using HR5.out),HB5.out,HD5.out.1⟩
    case round =>
      obtain ⟨k,hk,rfl,HRB,HB,HDF⟩:=hrel
      have hsz:=HB.out.size
      have cr:=HRB.out.cell
      have fr:=HRB.out.frozen
      have hrl:=HRB.out.lt
      have HCB:Hid ((pl (L.take k)).countP (fun x=>x.kind == 2)<=24):=by
        show (pl (L.take k)).countP (fun x=>x.kind == 2)<=24
        refine Nat.le_trans List.countP_le_length ?_
        simp only [List.length_map,List.length_take]
        omega
      obtain ⟨q,hq⟩:∃ q:Int,(xs.length:Int) - ((pl (L.take k)).countP (fun x=>x.kind == 2):Nat) = q:=⟨_,rfl⟩
      have hqb:-24<=q/\q<=24:=by have:=HCB.out;omega
      rw [hq] at cr HRB
      have HQ:Hid ((xs.length:Int) - ((pl (L.take k)).countP (fun x=>x.kind == 2):Nat) = q):=hq
      clear hq
      by_cases hlt:k < n
      · obtain ⟨x, hxk⟩ : ∃ x, L[k]? = some x := ⟨_, List.getElem?_eq_getElem (by rw [HN.out]; exact hlt)⟩
        obtain ⟨⟨b,off,rfl,hB,hc⟩,-⟩:=HX.out k x hxk
        obtain ⟨c0,c1,c2,c3,c4,c5,c6,c7⟩:=hc.below HB.out hB
        have hlt':(k:Int) < (n:Int):=by omega
        have HSU:Hid ((pl (L.take (k + 1))).countP (fun x=>x.kind == 2) = (pl (L.take k)).countP (fun x=>x.kind == 2) + if x.i.kind == 2 then 1 else 0):=by
          show (pl (L.take (k + 1))).countP (fun x=>x.kind == 2) = _
          rw [List.take_add_one,hxk]
          simp [pl,List.countP_append,List.countP_cons]
        obtain ⟨V2,hV2⟩:∃ V2,V2 = (wr.alloc (BIx x)).alloc (BIx x):=⟨_,rfl⟩
        have hg2:wr.grownBy V2 none:=by rw [hV2];exact grown_trans (World.grownBy_alloc _ _ none) (World.grownBy_alloc _ _ none)
        have HR2:Hid (Boxed V2 w.heap.size 3 (.int .i64 q)):=HRB.out.kept hg2 (by simp)
        have HB2:Hid (Below w.heap.size w V2):=HB.out.trans ((below_none hg2 (Nat.le_refl _)).mono hsz)
        have HD2:Hid (V2.heap[D]? = some (.deferred (some []))):=(hg2.block D (Array.getElem?_eq_some_iff.1 HDF.out).1 (by simp)).trans HDF.out
        clear hc hxk cr fr hg2
        by_cases hkd:x.i.kind = 2
        · have hkb : (x.i.kind == 2) = true := by simp [hkd]
          have HS2:Hid (((xs.length:Int) - ((pl (L.take (k + 1))).countP (fun x=>x.kind == 2):Nat)) = q - 1):=by
            show (xs.length:Int) - ((pl (L.take (k + 1))).countP (fun x=>x.kind == 2):Nat) = q - 1
            have:=HSU.out
            rw [hkb] at this
            rw [this,← HQ.out]
            simp
            omega
          clear hkd
          have cr:=HR2.out.cell
          have fr:=HR2.out.frozen
          gi_wp2
          refine ⟨trivial,?_⟩
          refine CallsIn.mono (callsIn_wide.2 (isDir_any x _)) ?_
          rintro e' w' ⟨rfl,rfl⟩
          rw [← hV2,hkb]
          clear hV2
          gi_wp2
          go_roundw
          case rel=>exact ⟨k + 1,by omega,by go_num,by rw [HS2.out];exact HR2.out.set _,HB2.out.setCell (p:=⟨w.heap.size,0,none⟩) (Nat.le_refl _) _,(KeepsOthers.setCell V2 _ _).same D _ HD2.out rfl⟩
          case measure=>simp [intOf];omega
        · have hkb : (x.i.kind == 2) = false := beq_eq_false_iff_ne.2 hkd
          have HS2:Hid (((xs.length:Int) - ((pl (L.take (k + 1))).countP (fun x=>x.kind == 2):Nat)) = q):=by
            show (xs.length:Int) - ((pl (L.take (k + 1))).countP (fun x=>x.kind == 2):Nat) = q
            have:=HSU.out
            rw [hkb] at this
            rw [this,← HQ.out]
            simp
          clear hkd
          gi_wp2
          refine ⟨trivial,?_⟩
          refine CallsIn.mono (callsIn_wide.2 (isDir_any x _)) ?_
          rintro e' w' ⟨rfl,rfl⟩
          rw [← hV2,hkb]
          clear hV2
          gi_wp2
          go_roundw
          case rel=>exact ⟨k + 1,by omega,by go_num,by rw [HS2.out];exact HR2.out,HB2.out,HD2.out⟩
          case measure=>simp [intOf];omega
      · obtain rfl : n = k := by omega
        have HQ2:Hid ((q == 0) = r):=by
          show (q == 0) = r
          rw [← HQ.out,List.take_of_length_le (by rw [HN.out];exact Nat.le_refl _)]
          exact HRV.out
        gi_wp2
        refine ⟨by simp,.inl ⟨_,_,rfl,run_takeDeferred HDF.out,?_⟩⟩
        refine ⟨_,results_tmp rfl _ _ _,?_,?_⟩
        · rw [← HQ2.out]
          rfl
        · exact HB.out.grown (grownBy_putObj' _ _ _) hsz (fun k e=>by cases e;have:=HD5.out.2;omega)
  case stop =>
    rintro D pre V5 hD hpre h hdf
    exact h.elim
end Go.Proofs.YtggoccfddnpelaaGreat
