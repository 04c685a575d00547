/- ZEm, TRefUnpack, ZRu, as one. -/
import Derived.Test.YtggoccfddnpelaaGreatR32
namespace Go.Proofs.YtggoccfddnpelaaGreat
open Go.ChangeShapes Go.WideShapes Go.ChangeAt Go.RowKit Go.Deep It
set_option maxRecDepth 100000
theorem Sh.new_okN {L:List Rw} (h:pl L = It.new):Sp.okN L:=fun r hr=>by
  have:r.i∈It.new:=by rw [← h];exact List.mem_map.2 ⟨r,hr,rfl⟩
  simp [It.new,It.fresh] at this
  rw [this]
  intro e he
  cases he
theorem Sh.new_sm:Sh.Sm It.new:=Sh.sm_of (by decide)
theorem Sh.new_unp:Sh.unpS Sh.newB = ⟨It.new,[],[],0⟩/\Sh.unpE Sh.newB = 0/\(Sh.rdS Sh.newB).L = It.new:=by
  have:=Sh.back_is Sh.new_pk.2
  rwa [Sh.new_pk.1] at this
theorem Sh.new_okS:∀ y∈It.new,okI y/\∀ e∈y.ents,e.1.size<=maxLen:=fun y hy=>by
  simp [It.new,It.fresh] at hy
  subst hy
  exact ⟨⟨fun r hr=>(by cases hr),by simp,by simp⟩,fun e he=>(by cases he)⟩
set_option maxHeartbeats 4000000 in
theorem empty_any (w:World):Calls Tryz.prog 5 #[] w fun e w'=>e = .returned (.bool true)/\Below w.heap.size w w':=by
  go_enter Tryz.func5,Tryz.ntmps5
  go_wp2_with fail
  refine (mnew_any w).mono ?_
  rintro e w1 ⟨ap,n,cp,L,rfl,ht,hp,hb1⟩
  have HT1:Hid (TabAt (fun b=>w.heap.size<=b) w1 (.slice ap n cp) L):=ht
  have HB1:Hid (Below w.heap.size w w1):=hb1
  have HP:Hid (pl L = It.new):=hp
  clear ht hp hb1
  go_wp2_with fail
  refine (shpack_any _ _ _ 0 L [] [] _ HT1.out (Sh.new_okN HP.out) At.nil At.nil (fun _=>by rw [HP.out];exact Sh.new_sm)).mono ?_
  rintro e w2 ⟨rfl,hb2⟩
  rw [HP.out,Sh.new_pk.1,Sh.new_pk.2]
  have HB2:Hid (Below w.heap.size w w2):=HB1.out.trans (hb2.mono HB1.out.size)
  have HU:Hid (∀ V,Calls Tryz.prog 6 #[.string Sh.newB] V fun e w'=>∃ L vi vo vz,e = .returned (.tuple #[.agg #[vi,vo,vz,.int .i64 0],.int .i64 0])/\US V.heap.size ⟨It.new,[],[],0⟩ L vi vo vz w'/\Below V.heap.size V w'):=fun V=>by
    have h:=shunp_any Sh.newB V (by decide) (by rw [Sh.new_unp.2.2];exact Sh.new_sm)
    rwa [Sh.new_unp.1,Sh.new_unp.2.1] at h
  have hsz:Sh.newB.size = 39:=rfl
  have hcut:((Sh.newB.extract 0 15).toList == [1,0,6,0,0,0,0,0,0,2,0,27,1,0,24]) = true:=by decide +kernel
  generalize Sh.newB = B at HU hsz hcut ⊢
  clear hb2 HT1 HP HB1
  go_wp2_with fail
  refine (HU.out _).mono ?_
  rintro e w3 ⟨L2,vi,vo,vz,rfl,hu,hb3⟩
  obtain ⟨⟨ia,im,ic,rfl⟩,⟨oa,om,oc,rfl⟩,za,zm,zc,rfl⟩:=hu.slices
  have HB3:Hid (Below w.heap.size w w3):=HB2.out.trans (hb3.mono HB2.out.size)
  obtain ⟨W4,hW4⟩:∃ V,V = w3.alloc (BSt (.slice ia im ic) (.slice oa om oc) (.slice za zm zc) 0):=⟨_,rfl⟩
  obtain ⟨A4,hA4⟩:∃ n,n = w3.heap.size:=⟨_,rfl⟩
  have HS4:Hid (US w2.heap.size ⟨It.new,[],[],0⟩ L2 (.slice ia im ic) (.slice oa om oc) (.slice za zm zc) W4):=by show US _ _ _ _ _ _ _;rw [hW4];exact hu.up ((Below.refl _ _).alloc (Nat.le_refl _) _)
  have HX4:Hid (W4.heap[A4]? = some (BSt (.slice ia im ic) (.slice oa om oc) (.slice za zm zc) 0)):=by show _ = _;rw [hW4,hA4];exact heap_alloc_new _ _
  have HB4:Hid (Below w.heap.size w W4):=by show Below _ _ _;rw [hW4];exact HB3.out.alloc HB3.out.size _
  have HSG:Hid (∀ V:World,Below W4.heap.size W4 V->V.cell? ⟨A4,0,none⟩ = some (.slice ia im ic)/\V.cell? ⟨A4,1,none⟩ = some (.slice oa om oc)/\V.cell? ⟨A4,2,none⟩ = some (.slice za zm zc)/\V.cell? ⟨A4,3,none⟩ = some (.int .i64 0)):=fun V h=>by
    obtain ⟨a0,a1,a2,a3⟩:=st_of HX4.out
    exact ⟨cell_step a0 h,cell_step a1 h,cell_step a2 h,cell_step a3 h⟩
  have HSC:Hid (∀ (V:World) (ap:Option Addr) (n cp:Nat) (L5:List Rw),Below W4.heap.size W4 V->TabW V (.slice ap n cp) L5->pl L5 = It.new->Calls Tryz.prog 8 #[VSt (.slice ia im ic) (.slice oa om oc) (.slice za zm zc) 0,VSt (.slice ap n cp) (.slice none 0 0) (.slice none 0 0) 0] V fun e w'=>e = .returned (.bool true)/\Below V.heap.size V w'):=fun V ap n cp L5 h1 h2 h3 =>
    state_same (T2:=fun _=>True) (T3:=fun _=>True) _ _ _ _ _ _ 0 L2 L5 [] [] V ((HS4.out.tab Sh.new_okS).up h1) h2 (by rw [HS4.out.eq,h3]) (HS4.out.opens.up h1) At.nil (HS4.out.seats.up h1) At.nil
  clear hu hb3 HB2 HU
  go_wp2_with fail
  rw [← hW4,← hA4]
  clear hW4 hA4
  go_region_held3 (fun V=>V.cell? ⟨A4,0,none⟩ = some (.slice ia im ic)/\V.cell? ⟨A4,1,none⟩ = some (.slice oa om oc)/\V.cell? ⟨A4,2,none⟩ = some (.slice za zm zc)/\V.cell? ⟨A4,3,none⟩ = some (.int .i64 0)) (first | exact HSG.out _ (by (repeat (first | with_reducible assumption | exact Below.refl _ _ | refine bel_drew ?_)))) (first
    | (go_at_call 11;refine (mnew_any _).mono ?_;rintro e w5 ⟨ap5,n5,cp5,L5,rfl,ht5,hp5,hb5⟩;have hb55:Below W4.heap.size W4 w5:=(by first | exact undrew hb5 | exact hb5);have HT5:Hid (TabW w5 (.slice ap5 n5 cp5) L5/\pl L5 = It.new):=⟨ht5.wide,hp5⟩;clear hb5 ht5 hp5)
    | (go_at_call 8;refine (HSC.out _ _ _ _ _ hb55 HT5.out.1 HT5.out.2).mono ?_;rintro e w6 ⟨rfl,hb6⟩;have hb66:Below W4.heap.size W4 w6:=hb55.trans (hb6.mono hb55.size)))
  all_goals
    have HB6:Hid (Below w.heap.size w w6):=HB4.out.trans (hb66.mono HB4.out.size)
    go_wp2
    go_ret
    exact ⟨rfl,HB6.out⟩
end Go.Proofs.YtggoccfddnpelaaGreat
namespace Go.Proofs.YtggoccfddnpelaaGreat.Ks
open Go.ChangeShapes Go.WideShapes Go.ChangeAt Go.RowKit Go.Deep
set_option maxRecDepth 100000
theorem own_drewN' {w:World} {base:Nat} {e:TypeId} {size:Nat} {v:Value} {n:Nat} {xs:List Value} (h:w.ownsRow base e size v n xs) (k:Nat):(w.drewN k).ownsRow base e size v n xs:=h
theorem info45':(Tryz.prog.info? 45).map (fun i=>(i.zero,i.size,i.bytes)) = some (some (.agg #[.int .i64 0,.string ⟨#[]⟩]),2,24):=by kernel_rfl
set_option maxHeartbeats 2000000 in
theorem refUnpack_any (s : ByteArray) (w : World) (hs : s.size ≤ 1048576) :
    Calls Tryz.prog 13 #[.string s] w fun e w'=>∃ r,e = .returned (.tuple #[r,.int .i64 (Pl.unpErr s.data.toList)]) /\
      w'.ownsRow w.heap.size 45 2 r (Pl.unpOut s.data.toList).length (cellsOf (Pl.unpOut s.data.toList))/\Below w.heap.size w w':=by
  obtain ⟨i0,hi,hz0,hz1,hz2⟩:=info_parts info45'
  have hsl:s.data.toList.length = s.size:=by simp
  have HG:Hid (∀ i (h:i < s.size),s.data.toList.getD i 0 = s[i]):=fun i h=>Pl.getD_at s i h
  have HX:Hid (∀ a b,s.extract a b = Pl.txt ((s.data.toList.drop a).take (b - a))):=Pl.extract_txt s
  obtain ⟨L,hL⟩:∃ L,s.data.toList = L:=⟨_,rfl⟩
  rw [hL] at hsl HG HX ⊢
  have HSL:Hid (L.length = s.size):=hsl
  clear hL hsl
  go_enter Tryz.func13,Tryz.ntmps13
  go_wp2
  go_loopw [4,5,6] (fun r t z wr=>∃ (k:Nat) (done:List (Int × ByteArray)) (la:Int),z = .int .i64 k/\t = .int .i64 la/\k<=s.size/\la<=255/\Pl.Mid L done la (L.drop k) /\
      wr.ownsRow w.heap.size 45 2 r done.length (cellsOf done)/\Below w.heap.size w wr) (fun _ _ z _=>s.size - (intOf z).toNat)
  case atStart=>exact ⟨0,[],1,rfl,rfl,Nat.zero_le _,by omega,Pl.Mid.start L,World.ownsRow_nil _ _ _ _,Below.refl _ _⟩
  case round =>
    obtain ⟨k,done,la,rfl,rfl,hk,hla,hmid,hown,hbl⟩:=hrel
    have hsz:=hbl.size
    have HM:Hid (Pl.Mid L done la (L.drop k)):=hmid
    have hdl:done.length<=1048576:=by have:=hmid.1;have:=HSL.out;omega
    have hln:(L.drop k).length = s.size - k:=by rw [List.length_drop,HSL.out]
    clear hmid
    by_cases h0:k = s.size
    · have hnil : L.drop k = [] := List.eq_nil_of_length_eq_zero (by omega)
      have H:Hid (Pl.unpOut L = done/\Pl.unpErr L = 0):=by
        have:=HM.out
        rw [hnil] at this
        exact this.finish
      have h0':¬ k < s.size:=by omega
      clear hnil hln h0
      go_wp2
      go_ret2
      rw [H.out.1,H.out.2]
      exact ⟨_,rfl,hown,hbl⟩
    · have hlt : k < s.size := by omega
      have HNN:Hid (L.drop k≠[]):=by
        intro h
        rw [h] at hln
        simp at hln
        omega
      clear h0
      by_cases h1:s.size - k < 3
      · have H : Hid (Pl.unpOut L = [] ∧ Pl.unpErr L = 10) := HM.out.fail HNN.out (by simp only [Pl.stepErr, hln, if_pos h1]) (by decide)
        clear hln
        have h1':(s.size:Int) - (k:Int) < 3:=by omega
        go_wp2
        go_ret2
        rw [H.out.1,H.out.2]
        exact ⟨_,rfl,World.ownsRow_nil _ _ _ _,hbl⟩
      · have h1' : ¬ (s.size : Int) - (k : Int) < 3 := by omega
        have p1:k + 1 < s.size:=by omega
        have p2:k + 2 < s.size:=by omega
        have e0:Pl.tagOf (L.drop k) = ((s[k]'hlt).toNat:Int):=by rw [Pl.tagOf,Pl.getD_drop,Nat.add_zero,HG.out k hlt]
        have e1:Pl.lenOf (L.drop k) = 256 * (s[k + 1]'p1).toNat + (s[k + 2]'p2).toNat:=by rw [Pl.lenOf,Pl.getD_drop,Pl.getD_drop,HG.out _ p1,HG.out _ p2]
        have b0:(s[k]'hlt).toNat < 256:=(s[k]'hlt).toNat_lt
        have b1:(s[k + 1]'p1).toNat < 256:=(s[k + 1]'p1).toNat_lt
        have b2:(s[k + 2]'p2).toNat < 256:=(s[k + 2]'p2).toNat_lt
        by_cases h2:(s[k]'hlt).toNat = 0
        · have h2' : (((s[k]'hlt).toNat : Int) == 0) = true := by simp; omega
          have H:Hid (Pl.unpOut L = []/\Pl.unpErr L = 4):=HM.out.fail HNN.out (by unfold Pl.stepErr;rw [e0,hln,if_neg h1,if_pos (by omega)]) (by decide)
          clear e0 e1 hln h2
          go_wp2
          go_ret2
          rw [H.out.1,H.out.2]
          exact ⟨_,rfl,World.ownsRow_nil _ _ _ _,hbl⟩
        · have h2' : (((s[k]'hlt).toNat : Int) == 0) = false := by simp; omega
          by_cases h3:((s[k]'hlt).toNat:Int) < la
          · have H : Hid (Pl.unpOut L = [] ∧ Pl.unpErr L = 11) := HM.out.fail HNN.out (by
              unfold Pl.stepErr
              rw [e0,hln,if_neg h1,if_neg (by omega),if_pos h3]) (by decide)
            clear e0 e1 hln h2
            go_wp2
            go_ret2
            rw [H.out.1,H.out.2]
            exact ⟨_,rfl,World.ownsRow_nil _ _ _ _,hbl⟩
          · have q1 : (k : Int) + 1 < (s.size : Int) := by omega
            have q2:(k:Int) + 2 < (s.size:Int):=by omega
            have q3:(0:Int)<=(k:Int) + 1:=by omega
            have q4:(0:Int)<=(k:Int) + 2:=by omega
            by_cases h4:(s.size:Int) - (k:Int) - 3 < 256 * ((s[k + 1]'p1).toNat:Int) + ((s[k + 2]'p2).toNat:Int)
            · have H : Hid (Pl.unpOut L = [] ∧ Pl.unpErr L = 10) := HM.out.fail HNN.out (by
                unfold Pl.stepErr
                rw [e0,e1,hln,if_neg h1,if_neg (by omega),if_neg h3,if_pos (by omega)]) (by decide)
              clear e0 e1 hln h2
              go_wp2
              go_quiet (fail)
              go_wp2
              go_ret2
              rw [H.out.1,H.out.2]
              exact ⟨_,rfl,World.ownsRow_nil _ _ _ _,Go.below_drewN hbl _⟩
            · have HST : Hid (Pl.Mid L (done ++ [Pl.fieldOf (L.drop k)]) (Pl.tagOf (L.drop k)) ((L.drop k).drop (3 + Pl.lenOf (L.drop k)))) := HM.out.step HNN.out (by
                unfold Pl.stepErr
                rw [e0,e1,hln,if_neg h1,if_neg (by omega),if_neg h3,if_neg (by omega)])
              have HFO:Hid (Pl.fieldOf (L.drop k) = (((s[k]'hlt).toNat:Int),s.extract (k + 3) (k + 3 + (256 * (s[k + 1]'p1).toNat + (s[k + 2]'p2).toNat)))):=by
                show Pl.fieldOf (L.drop k) = _
                unfold Pl.fieldOf
                rw [e0,e1,HX.out,List.drop_drop,show k + 3 + (256 * (s[k + 1]'p1).toNat + (s[k + 2]'p2).toNat) - (k + 3) = 256 * (s[k + 1]'p1).toNat + (s[k + 2]'p2).toNat from by omega]
              have HE0:Hid (Pl.tagOf (L.drop k) = ((s[k]'hlt).toNat:Int)):=e0
              have HE1:Hid (Pl.lenOf (L.drop k) = 256 * (s[k + 1]'p1).toNat + (s[k + 2]'p2).toNat):=e1
              clear e0 e1 hln h2
              go_wp2
              go_quiet (fail)
              go_wp2_with (at_builtin;refine wpList_append_own _ rfl (.tmp 46) (.tmp 57) 41 rfl w.heap.size 45 i0 (.agg #[.int .i64 0,.string ⟨#[]⟩]) 2 24 Tryz.underlying41 hi hz0 hz1 hz2 rfl (by decide) _ _ _ rfl ((own_drewN' hown _).alloc _) ⟨wr.heap.size,0,none⟩ 1 1 [.int .i64 ((s[k]'hlt).toNat:Int),.string (s.extract (k + 3) (k + 3 + (256 * (s[k + 1]'p1).toNat + (s[k + 2]'p2).toNat)))] rfl rfl (App.two_new _ _ rfl _ _ _) (App.one2 _ _) (by unfold maxLen;omega) (by omega) (by first | omega | (simp;omega)) ?_;intro v1 w1 hown1 hgrow1 _)
              go_roundw
              case rel =>
                refine ⟨k + (3 + Pl.lenOf (L.drop k)),done ++ [Pl.fieldOf (L.drop k)],Pl.tagOf (L.drop k),?_,by rw [HE0.out],?_,by rw [HE0.out];omega,?_,?_,?_⟩
                · rw [HE1.out];go_num
                · rw [HE1.out];omega
                · rw [← List.drop_drop];exact HST.out
                · rw [HFO.out, cellsOf_append, List.length_append]
                  exact hown1
                · exact ((Go.below_drewN hbl _).alloc hsz _).grown hgrow1 (by simp;omega) (fun g hg=>(hown.lt g hg).1)
              case measure=>simp only [intOf];omega
end Go.Proofs.YtggoccfddnpelaaGreat.Ks
namespace Go.Proofs.YtggoccfddnpelaaGreat
open Go.ChangeShapes Go.WideShapes Go.ChangeAt Go.RowKit Go.Deep It
set_option maxRecDepth 100000
set_option maxHeartbeats 1000000 in
theorem rpart_any (s:ByteArray) (a z:Nat) (w:World) (hs:s.size<=1048576) (ha:a<=100) (hz:z<=100) :
    Calls Tryz.prog 14 #[.string s,.int .i64 a,.int .i64 z] w fun e w'=>e = .returned (.int .i64 (Sh.pt s a z))/\w' = w:=by
  have HS:Hid ((s.extract a (a + z)).size<=maxLen):=by
    show _<=maxLen
    rw [ByteArray.size_extract]
    unfold maxLen
    omega
  by_cases h:s.size < a + z
  · have HP : Hid (Sh.pt s a z = 0) := by show _ = _; unfold Sh.pt; rw [if_pos h]
    have h1:(s.size:Int) < (a:Int) + (z:Int):=by omega
    clear h
    go_enter Tryz.func14,Tryz.ntmps14
    go_wp2
    go_ret
    rw [HP.out]
    exact ⟨rfl,rfl⟩
  · have HP : Hid (Sh.pt s a z = Ks.Pl.numVal (s.extract a (a + z))) := by show _ = _; unfold Sh.pt; rw [if_neg h]
    have h1:¬ (s.size:Int) < (a:Int) + (z:Int):=by omega
    have h2:(a:Int) + (z:Int)<=(s.size:Int):=by omega
    clear h
    go_enter Tryz.func14,Tryz.ntmps14
    go_wp2_with fail
    refine (Ks.refNumber_any _ _ HS.out).mono ?_
    rintro e w' ⟨rfl,rfl⟩
    rw [← HP.out]
    go_wp2
    go_ret
    exact ⟨rfl,rfl⟩
set_option maxHeartbeats 1000000 in
theorem prest_any (s:ByteArray) (a:Nat) (w:World) :
    Calls Tryz.prog 16 #[.string s,.int .i64 a] w fun e w'=>e = .returned (.string (Sh.rs s a))/\w' = w:=by
  by_cases h:s.size < a
  · have HP : Hid (Sh.rs s a = ⟨#[]⟩) := by show _ = _; unfold Sh.rs; rw [if_pos h]
    have h1:(s.size:Int) < (a:Int):=by omega
    clear h
    go_enter Tryz.func16,Tryz.ntmps16
    go_wp2
    go_ret
    rw [HP.out]
    exact ⟨rfl,rfl⟩
  · have HP : Hid (Sh.rs s a = s.extract a s.size) := by show _ = _; unfold Sh.rs; rw [if_neg h]
    have h1:¬ (s.size:Int) < (a:Int):=by omega
    have h2:(a:Int)<=(s.size:Int):=by omega
    clear h
    go_enter Tryz.func16,Tryz.ntmps16
    go_wp2
    go_ret
    rw [HP.out]
    exact ⟨rfl,rfl⟩
theorem qtI_lens (l:List Sh.F):∀ x:Ino,(l.foldl Sh.qtI x).runs.length<=x.runs.length + l.length/\(l.foldl Sh.qtI x).ents.length<=x.ents.length + l.length:=Sh.fold_len Sh.qtI Sh.qtI_one l
set_option linter.unusedSimpArgs false in
set_option maxHeartbeats 8000000 in
theorem uninode_any (s : ByteArray) (w : World) (hs : s.size ≤ 1048576) :
    Calls Tryz.prog 15 #[.string s] w fun e w'=>∃ rv ev,e = .returned (.agg #[.int .i64 (Sh.qI s).gen,.int .i64 (Sh.qI s).kind,.int .i64 (Sh.qI s).links,.int .i64 (Sh.qI s).size,.int .i64 (Sh.qI s).stamp,rv,ev,.int .i64 (Sh.qI s).next])/\Row ER w' w.heap.size 67 rv (Sh.qI s).runs/\Row EE w' w.heap.size 91 ev (Sh.qI s).ents/\Below w.heap.size w w':=by
  obtain ⟨A2,hA2⟩:∃ n,n = w.heap.size:=⟨_,rfl⟩
  obtain ⟨W,hW⟩:∃ W,W = w.alloc BIz:=⟨_,rfl⟩
  have HT0:Hid (W.heap[A2]? = some BIz):=by show _ = _;rw [hW,hA2];exact heap_alloc_new _ _
  have HB0:Hid (Below w.heap.size w W):=by show Below _ _ _;rw [hW];exact (Below.refl _ _).alloc (Nat.le_refl _) _
  have HW:Hid (W = w.alloc BIz/\A2 = w.heap.size):=⟨hW,hA2⟩
  have HZ:Hid (s.size<=1048576):=hs
  clear hs hW hA2
  go_enter Tryz.func15,Tryz.ntmps15
  go_wp2_with fail
  rw [← HW.out.1,← HW.out.2]
  refine (Ks.refUnpack_any s _ HZ.out).mono ?_
  rintro e w2 ⟨r,rfl,hown,hb⟩
  have HT2:Hid (w2.heap[A2]? = some BIz):=(hb.block _ (Array.getElem?_eq_some_iff.1 HT0.out).1).trans HT0.out
  have HB2:Hid (Below w.heap.size w w2):=HB0.out.trans (hb.mono HB0.out.size)
  obtain ⟨l,hl⟩:∃ l,Ks.Pl.unpOut s.data.toList = l:=⟨_,rfl⟩
  have HL:Hid (Ks.Pl.unpOut s.data.toList = l):=hl
  have HLS:Hid (∀ f∈l,f.2.size<=1048576):=by
    intro f hf
    rw [← hl] at hf
    exact Nat.le_trans (Ks.Rs.Ak.parse_small _ _ _ f hf) (by decide)
  rw [hl] at hown
  obtain ⟨ao,cap,rfl,hm,hx⟩:=flds (Ks.FieldsAt.of_own hown)
  have hmm:l.length<=1048576:=by
    have:=Sh.unp_len s
    rw [hl] at this
    have:=HZ.out
    omega
  obtain ⟨n,hn⟩:∃ n,l.length = n:=⟨_,rfl⟩
  rw [hn] at hmm ⊢
  have HN:Hid (l.length = n):=hn
  have HX:Hid (∀ i x,l[i]? = some x->∃ b off,ao = some ⟨b,off,none⟩/\b < w2.heap.size/\w2.cell? ⟨b,off + i * 2,none⟩ = some (.int .i64 x.1)/\w2.cell? ⟨b,off + i * 2 + 1,none⟩ = some (.string x.2)):=hx
  clear hown hb hl hn hx hm HT0 HB0
  go_wp2_with fail
  obtain ⟨A,hA⟩:∃ n,n = w2.heap.size:=⟨_,rfl⟩
  obtain ⟨W3,hW3⟩:∃ V,V = w2.alloc BIz:=⟨_,rfl⟩
  have HR:Hid (RI A A zeroI (.slice none 0 0) (.slice none 0 0) w2 W3):=by
    show RI _ _ _ _ _ _ _
    rw [hW3,hA]
    exact ⟨heap_alloc_new w2 _,Row.nil _ _ _ _,Row.nil _ _ _ _,Nat.le_refl _,(Below.refl _ _).alloc (Nat.le_refl _) _,Nat.le_refl _⟩
  rw [← hW3,← hA]
  have HA:Hid (A = w2.heap.size):=hA
  clear hW3 hA
  go_loopw [19] (fun i wr=>∃ (k:Nat) (x:Ino) (rv ev:Value),k<=n/\i = .int .i64 k/\Hid (RI A A x rv ev w2 wr)/\Hid (x = (l.take k).foldl Sh.qtI zeroI)) (fun i _=>n - (intOf i).toNat)
  case atStart=>exact ⟨0,zeroI,_,_,Nat.zero_le _,rfl,HR,by rw [List.take_zero];rfl⟩
  case round =>
    obtain ⟨k,x,rv,ev,hk,rfl,HI,HE⟩:=hrel
    by_cases hlt:k < n
    · obtain ⟨⟨tag, v⟩, hf⟩ : ∃ f, l[k]? = some f := ⟨_, List.getElem?_eq_getElem (by rw [HN.out]; exact hlt)⟩
      obtain ⟨b0,off,rfl,hb0,c0',c1'⟩:=HX.out k _ hf
      have hbA:b0 < A:=by rw [HA.out];exact hb0
      have c0:wr.cell? ⟨b0,off + k * 2,none⟩ = some (.int .i64 tag):=(HI.out.bl.cell (p:=⟨b0,off + k * 2,none⟩) hbA).trans c0'
      have c1:wr.cell? ⟨b0,off + k * 2 + 1,none⟩ = some (.string v):=(HI.out.bl.cell (p:=⟨b0,off + k * 2 + 1,none⟩) hbA).trans c1'
      have HV:Hid (v.size<=1048576):=HLS.out _ (List.mem_of_getElem? hf)
      have HNX:Hid ((l.take (k + 1)).foldl Sh.qtI zeroI = Sh.qtI x (tag,v)):=by show _ = _;rw [Sh.fold_take _ _ _ hf,← HE.out]
      have HLN:Hid (x.runs.length<=k/\x.ents.length<=k):=by
        show _/\_
        have h1:=qtI_lens (l.take k) zeroI
        rw [← HE.out] at h1
        have h2:(l.take k).length<=k:=by rw [List.length_take];omega
        have h3:zeroI.runs.length = 0/\zeroI.ents.length = 0:=⟨rfl,rfl⟩
        omega
      obtain ⟨W4,hW4⟩:∃ V,V = wr.alloc (.cells #[.int .i64 tag,.string v] 45):=⟨_,rfl⟩
      have HI4:Hid (RI A A x rv ev w2 W4):=by show RI _ _ _ _ _ _ _;rw [hW4];exact HI.out.up ((Below.refl _ _).alloc (Nat.le_refl _) _)
      have hlt':(k:Int) < (n:Int):=by omega
      clear c0' c1' hf hb0 HI
      by_cases e1:tag = 1
      · subst e1
        have t1:((1:Int) == 1) = true:=rfl
        by_cases h24:v.size = 24
        · have t24 : ((v.size : Int) == 24) = true := by simp [h24]
          have h18:(18:Int)<=(v.size:Int):=by omega
          go_wp2_with fail
          rw [← hW4]
          clear hW4 c0 c1
          refine (Ks.Rs.arefUnpack_any (v.extract 6 18) _).mono ?_
          rintro e w5 ⟨rfl,hb⟩
          obtain ⟨⟨a0,a1,a2,a3⟩,ha⟩:∃ a,Sh.qA v = a:=⟨_,rfl⟩
          have HAA:Hid (Sh.qA v = (a0,a1,a2,a3)):=ha
          have hua:Ks.Rs.Re.ua (v.extract 6 18) = (a0,a1,a2,a3):=ha
          rw [Ks.Rs.Re.ua_out,hua]
          have HI5:Hid (RI A A x rv ev w2 w5):=HI4.out.up hb
          obtain ⟨C,hC⟩:∃ n,n = w5.heap.size:=⟨_,rfl⟩
          obtain ⟨W6,hW6⟩:∃ V,V = w5.alloc (BA a0 a1 a2 a3):=⟨_,rfl⟩
          have HI6:Hid (RI A A x rv ev w2 W6):=by show RI _ _ _ _ _ _ _;rw [hW6];exact HI5.out.up ((Below.refl _ _).alloc (Nat.le_refl _) _)
          have HC6:Hid (W6.heap[C]? = some (BA a0 a1 a2 a3)):=by show _ = _;rw [hW6,hC];exact heap_alloc_new _ _
          have HNE:Hid (C≠A):=by show C≠A;have:=HI5.out.lt;omega
          clear hb ha hua HI4
          go_wp2_with fail
          rw [← hW6,← hC]
          clear hW6 hC HI5
          refine (rpart_any v 0 6 _ HV.out (by decide) (by decide)).mono ?_
          rintro e w' ⟨rfl,rfl⟩
          have HI8:Hid (RI A A { x with gen:=Sh.pt v 0 6,kind:=a0,links:=a1,size:=a2,stamp:=a3 } rv ev w2 (((((w'.setCell ⟨A,0,none⟩ (.int .i64 (Sh.pt v 0 6))).setCell ⟨A,1,none⟩ (.int .i64 a0)).setCell ⟨A,2,none⟩ (.int .i64 a1)).setCell ⟨A,3,none⟩ (.int .i64 a2)).setCell ⟨A,4,none⟩ (.int .i64 a3))) :=
            ((((HI6.out.set (y:={ x with gen:=Sh.pt v 0 6 }) (k:=0) (u:=.int .i64 (Sh.pt v 0 6)) rfl rfl (by simp)).set (y:={ x with gen:=Sh.pt v 0 6,kind:=a0 }) (k:=1) (u:=.int .i64 a0) rfl rfl (by simp)).set (y:={ x with gen:=Sh.pt v 0 6,kind:=a0,links:=a1 }) (k:=2) (u:=.int .i64 a1) rfl rfl (by simp)).set (y:={ x with gen:=Sh.pt v 0 6,kind:=a0,links:=a1,size:=a2 }) (k:=3) (u:=.int .i64 a2) rfl rfl (by simp)).set (k:=4) (u:=.int .i64 a3) rfl rfl (by simp)
          have f0:=fr_at HI6.out.box
          have q0:=cell_at HI6.out.box 0
          have q1:=cell_at HI6.out.box 1
          have q2:=cell_at HI6.out.box 2
          have q3:=cell_at HI6.out.box 3
          have q4:=cell_at HI6.out.box 4
          have d0:=cell_at HC6.out 0
          have d1:=cell_at HC6.out 1
          have d2:=cell_at HC6.out 2
          have d3:=cell_at HC6.out 3
          simp at q0 q1 q2 q3 q4 d0 d1 d2 d3
          have hne1:¬ C = A:=HNE.out
          have hne2:¬ A = C:=fun e=>HNE.out e.symm
          go_wp2_with fail
          clear f0 q0 q1 q2 q3 q4 d0 d1 d2 d3 HI6 HC6 hne1 hne2
          generalize ((((w'.setCell ⟨A,0,none⟩ (.int .i64 (Sh.pt v 0 6))).setCell ⟨A,1,none⟩ (.int .i64 a0)).setCell ⟨A,2,none⟩ (.int .i64 a1)).setCell ⟨A,3,none⟩ (.int .i64 a2)).setCell ⟨A,4,none⟩ (.int .i64 a3) = W8 at HI8 ⊢
          refine (rpart_any v 18 6 _ HV.out (by decide) (by decide)).mono ?_
          rintro e w' ⟨rfl,rfl⟩
          have HI10:Hid (RI A A { x with gen:=Sh.pt v 0 6,kind:=a0,links:=a1,size:=a2,stamp:=a3,next:=Sh.pt v 18 6 } rv ev w2 (w'.setCell ⟨A,7,none⟩ (.int .i64 (Sh.pt v 18 6)))):=HI8.out.set rfl rfl (by simp)
          have f0:=fr_at HI8.out.box
          have q7:=cell_at HI8.out.box 7
          simp at q7
          clear HI8
          go_wp2
          go_roundw
          case rel=>exact ⟨k + 1,_,rv,ev,by omega,by go_num,HI10,by show _ = _;rw [HNX.out];unfold Sh.qtI;rw [if_pos rfl,if_pos h24];simp only [HAA.out]⟩
          case measure=>simp [intOf];omega
        · have t24 : ((v.size : Int) == 24) = false := by simp; omega
          have HE2:Hid (x = (l.take (k + 1)).foldl Sh.qtI zeroI):=by show _ = _;rw [HNX.out];unfold Sh.qtI;rw [if_pos rfl,if_neg h24]
          clear h24 HNX HE
          go_wp2
          go_roundw
          case rel=>exact ⟨k + 1,x,rv,ev,by omega,by go_num,by rw [← hW4];exact HI4.out,HE2⟩
          case measure=>simp [intOf];omega
      · have t1 : (tag == 1) = false := by simp [e1]
        by_cases e2:tag = 2
        · subst e2
          have t2:((2:Int) == 2) = true:=rfl
          clear e1
          have f9:=fr_at HI4.out.box
          have q9:=cell_at HI4.out.box 5
          simp at q9
          go_wp2_with fail
          rw [← hW4]
          clear hW4 c0 c1 f9 q9
          refine wp_region_any (by kernel_rfl) ?_
          change wpAny _ _ _ _ _ _ _ (World.drew _)
          refine wpAny_take (i:=0) (v:=?vp0) rfl (by kernel_rfl) (by kernel_rfl) (by kernel_rfl) (fun _ _ _ h=>h) (Or.inl ⟨by rfl,?hp0⟩) ?rp0
          case hp0=>(intro w;go_simp;try with_reducible rfl)
          try simp only [Act.put,List.setIfInBounds_toArray,List.set_cons_zero,List.set_cons_succ]
          refine wpAny_take (i:=2) (v:=?vp2) rfl (by kernel_rfl) (by kernel_rfl) (by kernel_rfl) (fun _ _ _ h=>h) (Or.inl ⟨by rfl,?hp2⟩) ?rp2
          case hp2=>(intro w;go_simp;try with_reducible rfl)
          try simp only [Act.put,List.setIfInBounds_toArray,List.set_cons_zero,List.set_cons_succ]
          refine wpAny_take (i:=4) (v:=?vp4) rfl (by kernel_rfl) (by kernel_rfl) (by kernel_rfl) (fun _ _ _ h=>h) (Or.inl ⟨by rfl,?hp4⟩) ?rp4
          case hp4=>(intro w;go_simp;try with_reducible rfl)
          try simp only [Act.put,List.setIfInBounds_toArray,List.set_cons_zero,List.set_cons_succ]
          have HS:(fun V:World=>V.cell? ⟨A,5,none⟩ = some rv) W4.drew:=by have h:=cell_at HI4.out.drew.box 5;simpa using h
          refine Fst.any_of (late:=fun k=>[10].contains k) (S:=(fun V:World=>V.cell? ⟨A,5,none⟩ = some rv)) _ _ _ _ ?_
          refine Fst.take (ls:=[10]) (i:=1) (v:=?vp1) rfl (by kernel_rfl) (by kernel_rfl) (by kernel_rfl) (by kernel_rfl) (by kernel_rfl) (fun _ _ _ h=>h) (Or.inl ⟨by rfl,?hp1⟩) HS ?rp1
          case hp1=>(intro V s5;go_simp;try with_reducible rfl)
          try simp only [Act.put,List.setIfInBounds_toArray,List.set_cons_zero,List.set_cons_succ]
          refine Fst.one (late:=fun k=>[10].contains k) (i:=3) (by kernel_rfl) rfl (fun K hK=>?_)
          go_simp
          refine (rpart_any v 0 4 _ HV.out (by decide) (by decide)).mono ?_
          rintro e w' ⟨rfl,rfl⟩
          (try go_wp2_with fail)
          refine hK _ _ HS ?_
          clear hK K
          try simp only [Act.put,List.setIfInBounds_toArray,List.set_cons_zero,List.set_cons_succ]
          refine Fst.one (late:=fun k=>[10].contains k) (i:=5) (by kernel_rfl) rfl (fun K hK=>?_)
          go_simp
          refine (prest_any v 4 _).mono ?_
          rintro e w' ⟨rfl,rfl⟩
          (try go_wp2_with fail)
          refine hK _ _ HS ?_
          clear hK K
          try simp only [Act.put,List.setIfInBounds_toArray,List.set_cons_zero,List.set_cons_succ]
          refine Fst.take (ls:=[10]) (i:=6) (v:=?vp6) rfl (by kernel_rfl) (by kernel_rfl) (by kernel_rfl) (by kernel_rfl) (by kernel_rfl) (fun _ _ _ h=>h) (Or.inl ⟨by rfl,?hp6⟩) HS ?rp6
          case hp6=>(intro V s5;go_simp;try with_reducible rfl)
          try simp only [Act.put,List.setIfInBounds_toArray,List.set_cons_zero,List.set_cons_succ]
          clear HS
          refine Fst.one (late:=fun k=>[10].contains k) (i:=7) (by kernel_rfl) rfl (fun K hK=>?_)
          go_simp
          (try go_wp2_with fail)
          obtain ⟨W6,hW6⟩:∃ V,V = (W4.alloc (.cells #[.int .i64 (Sh.pt v 0 4),.string (Sh.rs v 4)] 67)).drew:=⟨_,rfl⟩
          have HI6:Hid (RI A A x rv ev w2 W6):=by show RI A A x rv ev w2 W6;rw [hW6];exact (HI4.out.up ((Below.refl _ _).alloc (Nat.le_refl _) _)).drew
          have HX6:Hid (W6.heap[W4.heap.size]? = some (.cells #[.int .i64 (Sh.pt v 0 4),.string (Sh.rs v 4)] 67)):=by show _ = _;rw [hW6];exact heap_alloc_new W4 _
          rw [← hW6]
          have HS:(fun V:World=>V.cell? ⟨A,5,none⟩ = some rv) W6:=by have h:=cell_at HI6.out.box 5;simpa using h
          refine hK _ _ HS ?_
          clear hK K hW6
          try simp only [Act.put,List.setIfInBounds_toArray,List.set_cons_zero,List.set_cons_succ]
          clear HS
          refine Fst.one (late:=fun k=>[10].contains k) (i:=8) (by kernel_rfl) rfl (fun K hK=>?_)
          obtain ⟨i0,hi,hz0,hz1,hz2⟩:=info_parts infoR
          refine step_row rfl _ _ _ rfl ER (fun _=>True) A 67 i0 (.agg #[.int .i64 0,.string ⟨#[]⟩]) 24 Tryz.underlying49 hi hz0 hz1 hz2 rfl rv x.runs rfl HI6.out.rows _ [Sh.qR v] rfl (at_run (r:=Sh.qR v) HX6.out) (by have:=HLN.out;unfold maxLen;simp;omega) (by have:=HLN.out;simp;omega) HI6.out.sz ?_
          intro v9 w9 g1 g2 _
          obtain ⟨a9,m9,c9,rfl⟩:∃ a m c,v9 = .slice a m c:=by rcases g1 with ⟨rfl,-⟩ | ⟨g,cap,cur,rfl,-⟩ <;> exact ⟨_,_,_,rfl⟩
          have HI7:=HI6.out.run g1 g2
          have HI8:Hid (w9.heap[A]? = some (BI x rv ev)):=HI7.2
          have HI9:Hid (RI A A { x with runs:=x.runs ++ [Sh.qR v] } (.slice a9 m9 c9) ev w2 (w9.setCell ⟨A,5,none⟩ (.slice a9 m9 c9))):=HI7.1
          clear HI7
          have HS:(fun V:World=>V.cell? ⟨A,5,none⟩ = some rv) w9:=by have h:=cell_at HI8.out 5;simpa using h
          refine hK _ _ HS ?_
          clear hK K HI6 HX6
          try simp only [Act.put,List.setIfInBounds_toArray,List.set_cons_zero,List.set_cons_succ]
          refine Fst.take (ls:=[10]) (i:=9) (v:=?vp9) rfl (by kernel_rfl) (by kernel_rfl) (by kernel_rfl) (by kernel_rfl) (by kernel_rfl) (fun _ _ _ h=>h) (Or.inl ⟨by rfl,?hp9⟩) HS ?rp9
          case hp9=>(intro V s5;go_simp;try with_reducible rfl)
          try simp only [Act.put,List.setIfInBounds_toArray,List.set_cons_zero,List.set_cons_succ]
          refine Fst.rest (by kernel_rfl) ?_
          have f8:=fr_at HI8.out
          have q8:=cell_at HI8.out 5
          simp at q8
          clear HS HI8
          refine wpAny_ready (rs:=[10]) (by kernel_rfl) (by simp) ?_
          refine AllReady.cons rfl (fun K hK=>?_) AllReady.nil
          go_simp
          (try go_wp2_with fail)
          first | (refine hK _ _ ?_;clear hK K) | skip
          try simp only [Act.put,List.setIfInBounds_toArray,List.set_cons_zero,List.set_cons_succ]
          refine wpAny_done (by kernel_rfl) ?_ _
          clear q8 f8
          go_wp2
          go_roundw
          case rel=>exact ⟨k + 1,_,.slice a9 m9 c9,ev,by omega,by go_num,HI9,by show _ = _;rw [HNX.out];unfold Sh.qtI;simp⟩
          case measure=>simp [intOf];omega
        · have t2 : (tag == 2) = false := by simp [e2]
          by_cases e3:tag = 3
          · subst e3
            have t3:((3:Int) == 3) = true:=rfl
            clear e1 e2
            have f9:=fr_at HI4.out.box
            have q9:=cell_at HI4.out.box 6
            simp at q9
            go_wp2_with fail
            rw [← hW4]
            clear hW4 c0 c1 f9 q9
            refine wp_region_any (by kernel_rfl) ?_
            change wpAny _ _ _ _ _ _ _ (World.drew _)
            refine wpAny_take (i:=0) (v:=?vq0) rfl (by kernel_rfl) (by kernel_rfl) (by kernel_rfl) (fun _ _ _ h=>h) (Or.inl ⟨by rfl,?hq0⟩) ?rq0
            case hq0=>(intro w;go_simp;try with_reducible rfl)
            try simp only [Act.put,List.setIfInBounds_toArray,List.set_cons_zero,List.set_cons_succ]
            refine wpAny_take (i:=2) (v:=?vq2) rfl (by kernel_rfl) (by kernel_rfl) (by kernel_rfl) (fun _ _ _ h=>h) (Or.inl ⟨by rfl,?hq2⟩) ?rq2
            case hq2=>(intro w;go_simp;try with_reducible rfl)
            try simp only [Act.put,List.setIfInBounds_toArray,List.set_cons_zero,List.set_cons_succ]
            refine wpAny_take (i:=4) (v:=?vq4) rfl (by kernel_rfl) (by kernel_rfl) (by kernel_rfl) (fun _ _ _ h=>h) (Or.inl ⟨by rfl,?hq4⟩) ?rq4
            case hq4=>(intro w;go_simp;try with_reducible rfl)
            try simp only [Act.put,List.setIfInBounds_toArray,List.set_cons_zero,List.set_cons_succ]
            refine wpAny_take (i:=6) (v:=?vq6) rfl (by kernel_rfl) (by kernel_rfl) (by kernel_rfl) (fun _ _ _ h=>h) (Or.inl ⟨by rfl,?hq6⟩) ?rq6
            case hq6=>(intro w;go_simp;try with_reducible rfl)
            try simp only [Act.put,List.setIfInBounds_toArray,List.set_cons_zero,List.set_cons_succ]
            refine wpAny_take (i:=8) (v:=?vq8) rfl (by kernel_rfl) (by kernel_rfl) (by kernel_rfl) (fun _ _ _ h=>h) (Or.inl ⟨by rfl,?hq8⟩) ?rq8
            case hq8=>(intro w;go_simp;try with_reducible rfl)
            try simp only [Act.put,List.setIfInBounds_toArray,List.set_cons_zero,List.set_cons_succ]
            have HS:(fun V:World=>V.cell? ⟨A,6,none⟩ = some ev) W4.drew:=by have h:=cell_at HI4.out.drew.box 6;simpa using h
            refine Fst.any_of (late:=fun k=>[15].contains k) (S:=(fun V:World=>V.cell? ⟨A,6,none⟩ = some ev)) _ _ _ _ ?_
            refine Fst.take (ls:=[15]) (i:=1) (v:=?vq1) rfl (by kernel_rfl) (by kernel_rfl) (by kernel_rfl) (by kernel_rfl) (by kernel_rfl) (fun _ _ _ h=>h) (Or.inl ⟨by rfl,?hq1⟩) HS ?rq1
            case hq1=>(intro V s5;go_simp;try with_reducible rfl)
            try simp only [Act.put,List.setIfInBounds_toArray,List.set_cons_zero,List.set_cons_succ]
            refine Fst.one (late:=fun k=>[15].contains k) (i:=3) (by kernel_rfl) rfl (fun K hK=>?_)
            go_simp
            refine (prest_any v 13 _).mono ?_
            rintro e w' ⟨rfl,rfl⟩
            (try go_wp2_with fail)
            refine hK _ _ HS ?_
            clear hK K
            try simp only [Act.put,List.setIfInBounds_toArray,List.set_cons_zero,List.set_cons_succ]
            refine Fst.one (late:=fun k=>[15].contains k) (i:=5) (by kernel_rfl) rfl (fun K hK=>?_)
            go_simp
            refine (rpart_any v 0 6 _ HV.out (by decide) (by decide)).mono ?_
            rintro e w' ⟨rfl,rfl⟩
            (try go_wp2_with fail)
            refine hK _ _ HS ?_
            clear hK K
            try simp only [Act.put,List.setIfInBounds_toArray,List.set_cons_zero,List.set_cons_succ]
            refine Fst.one (late:=fun k=>[15].contains k) (i:=7) (by kernel_rfl) rfl (fun K hK=>?_)
            go_simp
            refine (rpart_any v 6 1 _ HV.out (by decide) (by decide)).mono ?_
            rintro e w' ⟨rfl,rfl⟩
            (try go_wp2_with fail)
            refine hK _ _ HS ?_
            clear hK K
            try simp only [Act.put,List.setIfInBounds_toArray,List.set_cons_zero,List.set_cons_succ]
            refine Fst.one (late:=fun k=>[15].contains k) (i:=9) (by kernel_rfl) rfl (fun K hK=>?_)
            go_simp
            refine (rpart_any v 7 6 _ HV.out (by decide) (by decide)).mono ?_
            rintro e w' ⟨rfl,rfl⟩
            (try go_wp2_with fail)
            refine hK _ _ HS ?_
            clear hK K
            try simp only [Act.put,List.setIfInBounds_toArray,List.set_cons_zero,List.set_cons_succ]
            refine Fst.take (ls:=[15]) (i:=10) (v:=?vq10) rfl (by kernel_rfl) (by kernel_rfl) (by kernel_rfl) (by kernel_rfl) (by kernel_rfl) (fun _ _ _ h=>h) (Or.inl ⟨by rfl,?hq10⟩) HS ?rq10
            case hq10=>(intro V s5;go_simp;try with_reducible rfl)
            try simp only [Act.put,List.setIfInBounds_toArray,List.set_cons_zero,List.set_cons_succ]
            refine Fst.take (ls:=[15]) (i:=11) (v:=?vq11) rfl (by kernel_rfl) (by kernel_rfl) (by kernel_rfl) (by kernel_rfl) (by kernel_rfl) (fun _ _ _ h=>h) (Or.inl ⟨by rfl,?hq11⟩) HS ?rq11
            case hq11=>(intro V s5;go_simp;try with_reducible rfl)
            try simp only [Act.put,List.setIfInBounds_toArray,List.set_cons_zero,List.set_cons_succ]
            clear HS
            refine Fst.one (late:=fun k=>[15].contains k) (i:=12) (by kernel_rfl) rfl (fun K hK=>?_)
            go_simp
            (try go_wp2_with fail)
            obtain ⟨W6,hW6⟩:∃ V,V = (W4.alloc (.cells #[.string (Sh.rs v 13),.int .i64 (Sh.pt v 0 6),.int .i64 (Sh.pt v 6 1),.int .i64 (Sh.pt v 7 6)] 91)).drew:=⟨_,rfl⟩
            have HI6:Hid (RI A A x rv ev w2 W6):=by show RI A A x rv ev w2 W6;rw [hW6];exact (HI4.out.up ((Below.refl _ _).alloc (Nat.le_refl _) _)).drew
            have HX6:Hid (W6.heap[W4.heap.size]? = some (.cells #[.string (Sh.rs v 13),.int .i64 (Sh.pt v 0 6),.int .i64 (Sh.pt v 6 1),.int .i64 (Sh.pt v 7 6)] 91)):=by show _ = _;rw [hW6];exact heap_alloc_new W4 _
            rw [← hW6]
            have HS:(fun V:World=>V.cell? ⟨A,6,none⟩ = some ev) W6:=by have h:=cell_at HI6.out.box 6;simpa using h
            refine hK _ _ HS ?_
            clear hK K hW6
            try simp only [Act.put,List.setIfInBounds_toArray,List.set_cons_zero,List.set_cons_succ]
            clear HS
            refine Fst.one (late:=fun k=>[15].contains k) (i:=13) (by kernel_rfl) rfl (fun K hK=>?_)
            obtain ⟨i0,hi,hz0,hz1,hz2⟩:=info_parts infoE
            refine step_row rfl _ _ _ rfl EE (fun _=>True) A 91 i0 (.agg #[.string ⟨#[]⟩,.int .i64 0,.int .i64 0,.int .i64 0]) 40 Tryz.underlying50 hi hz0 hz1 hz2 rfl ev x.ents rfl HI6.out.rowE _ [Sh.qE v] rfl (at_ent (r:=Sh.qE v) HX6.out) (by have:=HLN.out;unfold maxLen;simp;omega) (by have:=HLN.out;simp;omega) HI6.out.sz ?_
            intro v9 w9 g1 g2 _
            obtain ⟨a9,m9,c9,rfl⟩:∃ a m c,v9 = .slice a m c:=by rcases g1 with ⟨rfl,-⟩ | ⟨g,cap,cur,rfl,-⟩ <;> exact ⟨_,_,_,rfl⟩
            have HI7:=HI6.out.ent g1 g2
            have HI8:Hid (w9.heap[A]? = some (BI x rv ev)):=HI7.2
            have HI9:Hid (RI A A { x with ents:=x.ents ++ [Sh.qE v] } rv (.slice a9 m9 c9) w2 (w9.setCell ⟨A,6,none⟩ (.slice a9 m9 c9))):=HI7.1
            clear HI7
            have HS:(fun V:World=>V.cell? ⟨A,6,none⟩ = some ev) w9:=by have h:=cell_at HI8.out 6;simpa using h
            refine hK _ _ HS ?_
            clear hK K HI6 HX6
            try simp only [Act.put,List.setIfInBounds_toArray,List.set_cons_zero,List.set_cons_succ]
            refine Fst.take (ls:=[15]) (i:=14) (v:=?vq14) rfl (by kernel_rfl) (by kernel_rfl) (by kernel_rfl) (by kernel_rfl) (by kernel_rfl) (fun _ _ _ h=>h) (Or.inl ⟨by rfl,?hq14⟩) HS ?rq14
            case hq14=>(intro V s5;go_simp;try with_reducible rfl)
            try simp only [Act.put,List.setIfInBounds_toArray,List.set_cons_zero,List.set_cons_succ]
            refine Fst.rest (by kernel_rfl) ?_
            have f8:=fr_at HI8.out
            have q8:=cell_at HI8.out 6
            simp at q8
            clear HS HI8
            refine wpAny_ready (rs:=[15]) (by kernel_rfl) (by simp) ?_
            refine AllReady.cons rfl (fun K hK=>?_) AllReady.nil
            go_simp
            (try go_wp2_with fail)
            first | (refine hK _ _ ?_;clear hK K) | skip
            try simp only [Act.put,List.setIfInBounds_toArray,List.set_cons_zero,List.set_cons_succ]
            refine wpAny_done (by kernel_rfl) ?_ _
            clear q8 f8
            go_wp2
            go_roundw
            case rel=>exact ⟨k + 1,_,rv,.slice a9 m9 c9,by omega,by go_num,HI9,by show _ = _;rw [HNX.out];unfold Sh.qtI;simp⟩
            case measure=>simp [intOf];omega
          · have t3 : (tag == 3) = false := by simp [e3]
            have HNN:Hid (Sh.qtI x (tag,v) = x):=by show Sh.qtI x (tag,v) = x;unfold Sh.qtI;rw [if_neg e1,if_neg e2,if_neg e3]
            have HE2:Hid (x = (l.take (k + 1)).foldl Sh.qtI zeroI):=by show _ = _;rw [HNX.out,HNN.out]
            clear e1 e2 e3 HNX HNN HE
            go_wp2
            go_roundw
            case rel=>exact ⟨k + 1,x,rv,ev,by omega,by go_num,by rw [← hW4];exact HI4.out,HE2⟩
            case measure=>simp [intOf];omega
    · obtain rfl : k = n := by omega
      have HXX:Hid (Sh.qI s = x):=by
        show _ = _
        unfold Sh.qI
        rw [HL.out,HE.out,List.take_of_length_le (by rw [HN.out];exact Nat.le_refl _)]
      obtain ⟨ra,rn,rc,rfl⟩:∃ a m c,rv = .slice a m c:=by rcases HI.out.rows with ⟨rfl,-⟩ | ⟨g,cap,cur,rfl,-⟩ <;> exact ⟨_,_,_,rfl⟩
      obtain ⟨ea,en,ec,rfl⟩:∃ a m c,ev = .slice a m c:=by rcases HI.out.rowE with ⟨rfl,-⟩ | ⟨g,cap,cur,rfl,-⟩ <;> exact ⟨_,_,_,rfl⟩
      have HAA:Hid (A2 < A):=by show A2 < A;rw [HA.out];exact (Array.getElem?_eq_some_iff.1 HT2.out).1
      have HAw:Hid (w.heap.size<=A2):=by show w.heap.size<=A2;rw [HW.out.2];exact Nat.le_refl _
      have HA2w:Hid (wr.heap[A2]? = some BIz):=(HI.out.bl.block _ HAA.out).trans HT2.out
      have b0:=cell_at HI.out.box 0
      have b1:=cell_at HI.out.box 1
      have b2:=cell_at HI.out.box 2
      have b3:=cell_at HI.out.box 3
      have b4:=cell_at HI.out.box 4
      have b5:=cell_at HI.out.box 5
      have b6:=cell_at HI.out.box 6
      have b7:=cell_at HI.out.box 7
      simp at b0 b1 b2 b3 b4 b5 b6 b7
      have f0:=fr_at HA2w.out
      have c0:=cell_at HA2w.out 0
      have c1:=cell_at HA2w.out 1
      have c2:=cell_at HA2w.out 2
      have c3:=cell_at HA2w.out 3
      have c4:=cell_at HA2w.out 4
      have c5:=cell_at HA2w.out 5
      have c6:=cell_at HA2w.out 6
      have c7:=cell_at HA2w.out 7
      simp at c0 c1 c2 c3 c4 c5 c6 c7
      have HF:Hid (((((((((wr.setCell ⟨A2,0,none⟩ (.int .i64 x.gen)).setCell ⟨A2,1,none⟩ (.int .i64 x.kind)).setCell ⟨A2,2,none⟩ (.int .i64 x.links)).setCell ⟨A2,3,none⟩ (.int .i64 x.size)).setCell ⟨A2,4,none⟩ (.int .i64 x.stamp)).setCell ⟨A2,5,none⟩ (.slice ra rn rc)).setCell ⟨A2,6,none⟩ (.slice ea en ec)).setCell ⟨A2,7,none⟩ (.int .i64 x.next)).heap[A2]? = some (BI x (.slice ra rn rc) (.slice ea en ec))):=by show _ = _;have h:=(set_at (set_at (set_at (set_at (set_at (set_at (set_at (set_at HA2w.out 0 (.int .i64 x.gen)) 1 (.int .i64 x.kind)) 2 (.int .i64 x.links)) 3 (.int .i64 x.size)) 4 (.int .i64 x.stamp)) 5 (.slice ra rn rc)) 6 (.slice ea en ec)) 7 (.int .i64 x.next));simpa using h
      have hg:wr.grownBy ((((((((wr.setCell ⟨A2,0,none⟩ (.int .i64 x.gen)).setCell ⟨A2,1,none⟩ (.int .i64 x.kind)).setCell ⟨A2,2,none⟩ (.int .i64 x.links)).setCell ⟨A2,3,none⟩ (.int .i64 x.size)).setCell ⟨A2,4,none⟩ (.int .i64 x.stamp)).setCell ⟨A2,5,none⟩ (.slice ra rn rc)).setCell ⟨A2,6,none⟩ (.slice ea en ec)).setCell ⟨A2,7,none⟩ (.int .i64 x.next)) (some A2):=grown_trans (grown_trans (grown_trans (grown_trans (grown_trans (grown_trans (grown_trans (grs _ _ _ _) (grs _ _ _ _)) (grs _ _ _ _)) (grs _ _ _ _)) (grs _ _ _ _)) (grs _ _ _ _)) (grs _ _ _ _)) (grs _ _ _ _)
      have HRR:Hid (Row ER ((((((((wr.setCell ⟨A2,0,none⟩ (.int .i64 x.gen)).setCell ⟨A2,1,none⟩ (.int .i64 x.kind)).setCell ⟨A2,2,none⟩ (.int .i64 x.links)).setCell ⟨A2,3,none⟩ (.int .i64 x.size)).setCell ⟨A2,4,none⟩ (.int .i64 x.stamp)).setCell ⟨A2,5,none⟩ (.slice ra rn rc)).setCell ⟨A2,6,none⟩ (.slice ea en ec)).setCell ⟨A2,7,none⟩ (.int .i64 x.next)) w.heap.size 67 (.slice ra rn rc) x.runs):=(HI.out.rows.kept hg (.inr fun e=>by have:=(HI.out.rows.lt _ e).1;have:=HAA.out;omega)).low (by have:=HAA.out;have:=HAw.out;omega)
      have HRE:Hid (Row EE ((((((((wr.setCell ⟨A2,0,none⟩ (.int .i64 x.gen)).setCell ⟨A2,1,none⟩ (.int .i64 x.kind)).setCell ⟨A2,2,none⟩ (.int .i64 x.links)).setCell ⟨A2,3,none⟩ (.int .i64 x.size)).setCell ⟨A2,4,none⟩ (.int .i64 x.stamp)).setCell ⟨A2,5,none⟩ (.slice ra rn rc)).setCell ⟨A2,6,none⟩ (.slice ea en ec)).setCell ⟨A2,7,none⟩ (.int .i64 x.next)) w.heap.size 91 (.slice ea en ec) x.ents):=(HI.out.rowE.kept hg (.inr fun e=>by have:=(HI.out.rowE.lt _ e).1;have:=HAA.out;omega)).low (by have:=HAA.out;have:=HAw.out;omega)
      have HBW:Hid (Below w.heap.size w wr):=HB2.out.trans (HI.out.bl.mono (by rw [HA.out];exact HB2.out.size))
      have HBF:Hid (Below w.heap.size w ((((((((wr.setCell ⟨A2,0,none⟩ (.int .i64 x.gen)).setCell ⟨A2,1,none⟩ (.int .i64 x.kind)).setCell ⟨A2,2,none⟩ (.int .i64 x.links)).setCell ⟨A2,3,none⟩ (.int .i64 x.size)).setCell ⟨A2,4,none⟩ (.int .i64 x.stamp)).setCell ⟨A2,5,none⟩ (.slice ra rn rc)).setCell ⟨A2,6,none⟩ (.slice ea en ec)).setCell ⟨A2,7,none⟩ (.int .i64 x.next))):=HBW.out.grown hg HBW.out.size (fun j hj=>by cases hj;exact HAw.out)
      clear hg
      go_wp2
      generalize ((((((((wr.setCell ⟨A2,0,none⟩ (.int .i64 x.gen)).setCell ⟨A2,1,none⟩ (.int .i64 x.kind)).setCell ⟨A2,2,none⟩ (.int .i64 x.links)).setCell ⟨A2,3,none⟩ (.int .i64 x.size)).setCell ⟨A2,4,none⟩ (.int .i64 x.stamp)).setCell ⟨A2,5,none⟩ (.slice ra rn rc)).setCell ⟨A2,6,none⟩ (.slice ea en ec)).setCell ⟨A2,7,none⟩ (.int .i64 x.next)) = WF at HF HRR HRE HBF ⊢
      have d0:=cell_at HF.out 0
      have d1:=cell_at HF.out 1
      have d2:=cell_at HF.out 2
      have d3:=cell_at HF.out 3
      have d4:=cell_at HF.out 4
      have d5:=cell_at HF.out 5
      have d6:=cell_at HF.out 6
      have d7:=cell_at HF.out 7
      simp at d0 d1 d2 d3 d4 d5 d6 d7
      refine bodyPost_ret (v:=.agg #[.int .i64 x.gen,.int .i64 x.kind,.int .i64 x.links,.int .i64 x.size,.int .i64 x.stamp,.slice ra rn rc,.slice ea en ec,.int .i64 x.next]) ?_ rfl ?_
      · rw [results_cell1 rfl]
        go_simp
      · rw [HXX.out]
        exact ⟨_,_,rfl,HRR.out,HRE.out,HBF.out⟩
end Go.Proofs.YtggoccfddnpelaaGreat
