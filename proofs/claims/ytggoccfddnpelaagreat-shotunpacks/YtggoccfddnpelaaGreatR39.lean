/- ZRp, as one. -/
import Derived.Test.YtggoccfddnpelaaGreatR35
import Derived.Test.YtggoccfddnpelaaGreatR38
namespace Go.Proofs.YtggoccfddnpelaaGreat
open Go.ChangeShapes Go.WideShapes Go.ChangeAt Go.RowKit Go.Deep It
set_option maxRecDepth 100000
set_option linter.unusedSimpArgs false in
set_option maxHeartbeats 8000000 in
theorem rpackS_any {S : Nat → Prop} (vi vo vz : Value) (dn : Int) (L : List Rw) (O : List Os.Opn) (Z : List Es.Sea) (w : World) (hv : TabAt S w vi L) (hok : Sp.okN L) (ho : AtW Os.EO w vo O) (hz : AtW Es.ES w vz Z) (hs : Sh.whole (pl L) O Z dn = true → Sh.Sm (pl L)) :
    Calls Tryz.prog 17 #[VSt vi vo vz dn] w fun e w'=>e = .returned (.tuple #[.string (Sh.pkO (pl L) O Z dn),.int .i64 (Sh.pkE (pl L) O Z dn)])/\Below w.heap.size w w':=by
  have HV:Hid (TabAt S w vi L):=hv
  have HO:Hid (AtW Os.EO w vo O):=ho
  have HZ:Hid (AtW Es.ES w vz Z):=hz
  have HOK:Hid (Sp.okN L):=hok
  have HSM:Hid (Sh.whole (pl L) O Z dn = true->Sh.Sm (pl L)):=hs
  obtain ⟨p,c,rfl,-,hvx⟩:=hv.open
  obtain ⟨q,d,rfl,-,hox'⟩:=ho.open
  obtain ⟨u,z,rfl,-,hzx⟩:=hz.open
  have HVX:Hid (∀ i x,L[i]? = some x->(∃ b off,p = some ⟨b,off,none⟩/\b < w.heap.size/\eight w b (off + i * 8) x)/\Good S w x):=hvx
  have HOX2:Hid (∀ i x,O[i]? = some x->∃ b off,q = some ⟨b,off,none⟩/\True/\b < w.heap.size/\∀ k u,(Os.EO.cells x)[k]? = some u->w.cell? ⟨b,off + (i * Os.EO.sz + k),none⟩ = some u):=hox'
  have HZX:Hid (Es.Over w u Z):=hzx
  obtain ⟨n,hn'⟩:∃ n,L.length = n:=⟨_,rfl⟩
  obtain ⟨m,hm'⟩:∃ m,O.length = m:=⟨_,rfl⟩
  obtain ⟨k,hk'⟩:∃ m,Z.length = m:=⟨_,rfl⟩
  have HN:Hid (L.length = n):=hn'
  have HM:Hid (O.length = m):=hm'
  have HK:Hid (Z.length = k):=hk'
  rw [hn'] at HV ⊢
  rw [hm'] at HO ⊢
  rw [hk'] at HZ ⊢
  obtain ⟨A,hA⟩:∃ n,n = w.heap.size:=⟨_,rfl⟩
  obtain ⟨n0,hn0⟩:∃ n,n = w.heap.size:=⟨_,rfl⟩
  obtain ⟨ox,hox⟩:∃ o:Array Value,o = #[.slice p n c,.slice q m d,.slice u k z,.int .i64 dn]:=⟨_,rfl⟩
  have HOX:Hid (ox = #[.slice p n c,.slice q m d,.slice u k z,.int .i64 dn]):=hox
  obtain ⟨W,hW⟩:∃ W,W = w.alloc (.cells #[.slice p n c,.slice q m d,.slice u k z,.int .i64 dn] 27):=⟨_,rfl⟩
  have HP0:Hid (PB 45 27 A n0 ox [] (.slice none 0 0) w W):=by
    show PB 45 27 A n0 ox [] (.slice none 0 0) w W
    rw [hW,hA,hn0,hox]
    exact ⟨heap_alloc_new w _,Row.nil _ _ _ _,Nat.le_refl _,(Below.refl _ _).alloc (Nat.le_refl _) _,Nat.le_refl _⟩
  have HW:Hid (W = w.alloc (.cells #[.slice p n c,.slice q m d,.slice u k z,.int .i64 dn] 27)/\A = w.heap.size):=⟨hW,hA⟩
  have HN0:Hid (n0 = w.heap.size):=hn0
  have HBW:Hid (∀ V,Below n0 w V->Below w.heap.size w V):=fun V h=>by rwa [hn0] at h
  obtain ⟨r,hr⟩:∃ r,Sh.whole (pl L) O Z dn = r:=⟨_,rfl⟩
  have HR:Hid (Sh.whole (pl L) O Z dn = r):=hr
  have HB0:Hid (Below w.heap.size w W):=HBW.out _ HP0.out.bl
  have HC0:Hid (∀ V,Below w.heap.size w V->Calls Tryz.prog 34 #[VSt (.slice p n c) (.slice q m d) (.slice u k z) dn] V fun e w'=>e = .returned (.bool r)/\Below V.heap.size V w'):=fun V hb=>by
    rw [← hr]
    exact mright_any _ _ _ dn L O Z V (HV.out.up hb) HOK.out (HO.out.up hb) (HZ.out.up hb)
  clear hv ho hz hok hs hn' hm' hk' hvx hox' hzx hA hn0 hox hr
  go_enter Tryz.func17,Tryz.ntmps17
  go_wp2_with fail
  rw [← hW,← HW.out.2]
  clear hW
  refine (HC0.out _ HB0.out).mono ?_
  rintro e w1 ⟨rfl,hb⟩
  have HP1:Hid (PB 45 27 A n0 ox [] (.slice none 0 0) w w1):=HP0.out.up hb
  clear hb HP0 HB0 HC0
  cases r with
  | false =>
    have HF:Hid (Sh.pkO (pl L) O Z dn = ⟨#[]⟩/\Sh.pkE (pl L) O Z dn = 4):=⟨by unfold Sh.pkO;rw [HR.out];rfl,by unfold Sh.pkE;rw [HR.out];rfl⟩
    have HB1:Hid (Below w.heap.size w w1):=HBW.out _ HP1.out.bl
    skip
    go_wp2
    go_ret2
    rw [HF.out.1,HF.out.2]
    exact ⟨rfl,HB1.out⟩
  | true =>
    skip
    have HWH:Hid (Sh.Wh (pl L) O Z dn):=Sh.wh_of HR.out
    have HS:Hid (Sh.Sm (pl L)):=HSM.out HR.out
    have HLS:Hid ((n<=24/\m<=16)/\k<=6):=by
      obtain ⟨a,b,c⟩:=HWH.out.lens
      rw [HM.out] at b
      rw [HK.out] at c
      rw [show (pl L).length = n by simpa [pl] using HN.out] at a
      exact ⟨⟨a,b⟩,c⟩
    have hn24:n<=24:=HLS.out.1.1
    have hm16:m<=16:=HLS.out.1.2
    have hk6:k<=6:=HLS.out.2
    obtain ⟨bD,hbD⟩:∃ b,Sh.nb dn 6 = b:=⟨_,rfl⟩
    have HBD:Hid (Sh.nb dn 6 = bD):=hbD
    have HCD:Hid (∀ V,Calls Tryz.prog 35 #[.int .i64 dn,.int .i64 6] V fun e w'=>e = .returned (.string bD)/\Below V.heap.size V w'):=fun V=>by rw [← hbD];exact Ks.Rs.bytes_is (dn) 6 V (by have:=HWH.out.dn;omega)
    have HO1:Hid (w1.heap[A]? = some (.cells #[.slice p n c,.slice q m d,.slice u k z,.int .i64 dn] 27)):=by have h:=HP1.out.box;rw [HOX.out] at h;exact h
    have c3:w1.cell? ⟨A,3,none⟩ = some (.int .i64 dn):=cell_at HO1.out 3
    clear hbD HO1
    go_wp2_with fail
    clear c3
    refine (HCD.out _).mono ?_
    rintro e w2 ⟨rfl,hb⟩
    have HP2:Hid (PB 45 27 A n0 ox [] (.slice none 0 0) w w2):=HP1.out.up hb
    have HO2:Hid (w2.heap[A]? = some (.cells #[.slice p n c,.slice q m d,.slice u k z,.int .i64 dn] 27)):=by have h:=HP2.out.box;rw [HOX.out] at h;exact h
    have hA2:A < w2.heap.size:=HP2.out.lt
    have c0:w2.cell? ⟨A,0,none⟩ = some (.slice p n c):=cell_at HO2.out 0
    have HP3:Hid (PB 45 27 A n0 ox [(1,bD)] (.slice (some ⟨w2.heap.size,0,none⟩) 1 1) w (w2.alloc (.cells #[.int .i64 1,.string bD] 45))):=by
      have h:=HP2.out.al (.cells #[.int .i64 1,.string bD] 45)
      exact ⟨h.box,row_one (f:=(1,bD)) (heap_alloc_new w2 _) HP2.out.sz,h.base,h.bl,h.st⟩
    clear hb HP1 HCD HO2
    go_wp2_with fail
    clear c0
    obtain ⟨W3,hW3⟩:∃ V,V = w2.alloc (.cells #[.int .i64 1,.string bD] 45):=⟨_,rfl⟩
    rw [← hW3] at HP3 ⊢
    clear hW3 hA2 HP2
    go_loopw [4,24] (fun g i wr=>∃ (j:Nat) (v:Value) (ls:List Sh.F),j<=n/\i = .int .i64 j/\g = v/\Hid (PB 45 27 A n0 ox ls v w wr)/\Hid (ls = [(1,bD)] ++ ((pl L).take j).map Sh.inoF)) (fun _ i _=>n - (intOf i).toNat)
    case atStart=>exact ⟨0,_,_,Nat.zero_le _,rfl,rfl,HP3,by show _ = _;simp⟩
    case round =>
      obtain ⟨j,v,ls,hj,rfl,rfl,HP,HLS1⟩:=hrel
      obtain ⟨va,vm,vc,rfl⟩:=HP.out.slice
      have HBR:Hid (Below w.heap.size w wr):=HBW.out _ HP.out.bl
      by_cases hlt:j < n
      · obtain ⟨x, hx⟩ : ∃ x, L[j]? = some x := ⟨_, List.getElem?_eq_getElem (by rw [HN.out]; exact hlt)⟩
        obtain ⟨⟨b0,off,rfl,hb0,he8⟩,hg8⟩:=HVX.out j x hx
        obtain ⟨c0,c1,c2,c3,c4,c5,c6,c7⟩:=he8.below HBR.out hb0
        have HXK:Hid ((pl L)[j]? = some x.i):=by show _ = _;simp [pl,hx]
        have HCP:Hid (∀ V,Below w.heap.size w V->Calls Tryz.prog 36 #[VI x] V fun e w'=>e = .returned (.tuple #[.string (Sh.inoB x.i),.int .i64 0])/\Below V.heap.size V w'):=fun V hb=>by
          have hm:=List.mem_of_getElem? HXK.out
          have g1:=hg8.1.up hb
          have g2:=hg8.2.1.up hb
          have h:=rino_any x.i x.rp x.ep x.rc x.ec V (HWH.out.bd _ hm) (HS.out _ hm).1 (HS.out _ hm).2 (by rw [← hg8.len.1];exact g1) (by rw [← hg8.len.2];exact g2)
          rw [← hg8.len.1,← hg8.len.2] at h
          exact h
        have HLEN:Hid (ls.length<=60001):=by
          show ls.length<=60001
          rw [HLS1.out,List.length_append,List.length_map,List.length_take]
          have:=HLS.out
          simp
          omega
        obtain ⟨bI,hbI⟩:∃ b,Sh.inoB x.i = b:=⟨_,rfl⟩
        have HBI:Hid (Sh.inoF x.i = (2,bI)):=by show _ = _;unfold Sh.inoF;rw [hbI]
        rw [hbI] at HCP
        have HP4:Hid (PB 45 27 A n0 ox ls (.slice va vm vc) w (wr.alloc (.cells #[.int .i64 x.i.gen,.int .i64 x.i.kind,.int .i64 x.i.links,.int .i64 x.i.size,.int .i64 x.i.stamp,.slice x.rp x.rn x.rc,.slice x.ep x.en x.ec,.int .i64 x.i.next] 52))):=HP.out.al _
        have hlt':(j:Int) < (n:Int):=by omega
        clear hx hb0 he8 hg8 HP hbI
        go_wp2_with fail
        refine (HCP.out _ (HBW.out _ HP4.out.bl)).mono ?_
        rintro e w5 ⟨rfl,hb⟩
        have HP5:Hid (PB 45 27 A n0 ox ls (.slice va vm vc) w w5):=HP4.out.up hb
        have HP6:Hid (PB 45 27 A n0 ox ls (.slice va vm vc) w (w5.alloc (.cells #[.int .i64 2,.string bI] 45))):=HP5.out.al _
        have HX6:Hid (AtW Sh.EF (w5.alloc (.cells #[.int .i64 2,.string bI] 45)) (.slice (some ⟨w5.heap.size,0,none⟩) 1 1) [(2,bI)]):=(row_one (T:=45) (n0:=n0) (f:=(2,bI)) (heap_alloc_new w5 _) HP5.out.sz).at.wide
        obtain ⟨i0,hi,hz0,hz1,hz2⟩:=Es.info_parts infoU
        clear hb HP4 c0 c1 c2 c3 c4 c5 c6 c7 HBR
        go_wp2_with (at_builtin;refine wpList_row _ rfl _ _ 41 rfl Sh.EF (fun _=>True) n0 45 i0 _ 24 Tryz.underlying41 hi hz0 hz1 hz2 rfl _ ls rfl HP6.out.row _ [(2,bI)] rfl HX6.out (by have:=HLEN.out;unfold maxLen;simp only [List.length_cons,List.length_nil];omega) (by have:=HLEN.out;simp only [List.length_cons,List.length_nil];omega) HP6.out.sz ?_;intro v9 w9 g1 g2 _;have HP9:Hid (PB 45 27 A n0 ox (ls ++ [Sh.inoF x.i]) v9 w w9):=HBI.out ▸ HP6.out.app (by decide) g1 g2;clear g1 g2;obtain ⟨v9a,v9m,v9c,rfl⟩:=HP9.out.slice)
        go_wp2
        go_roundw
        case rel=>exact ⟨j + 1,_,_,by omega,by go_num,rfl,HP9,by show _ = _;rw [HLS1.out,Sh.map_take _ HXK.out,List.append_assoc]⟩
        case measure=>simp [intOf];omega
      · obtain rfl : j = n := by omega
        have HLS2:Hid (ls = (1,bD) :: (pl L).map Sh.inoF):=by show _ = _;rw [HLS1.out,List.take_of_length_le (by rw [show (pl L).length = j by simpa [pl] using HN.out];exact Nat.le_refl _)];rfl
        have HL2:Hid (ls.length<=30001):=by
          show ls.length<=30001
          rw [HLS2.out,List.length_cons,List.length_map,show (pl L).length = j by simpa [pl] using HN.out]
          have:=HLS.out
          omega
        have HOE:Hid (wr.heap[A]? = some (.cells #[.slice p j c,.slice q m d,.slice u k z,.int .i64 dn] 27)):=by have h:=HP.out.box;rw [HOX.out] at h;exact h
        have c1:wr.cell? ⟨A,1,none⟩ = some (.slice q m d):=cell_at HOE.out 1
        clear HLS1
        go_wp2_with fail
        clear c1 HOE
        go_loopw [4,45] (fun g i wr=>∃ (i2:Nat) (v:Value) (ms:List Sh.F),i2<=m/\i = .int .i64 i2/\g = v/\Hid (PB 45 27 A n0 ox ms v w wr)/\Hid (ms = ls ++ (O.take i2).map Sh.opF)) (fun _ i _=>m - (intOf i).toNat)
        case atStart=>exact ⟨0,_,_,Nat.zero_le _,rfl,rfl,HP,by show _ = _;simp⟩
        case round =>
          obtain ⟨i2,v,ms,hi2,rfl,rfl,HQ,HMS⟩:=hrel
          obtain ⟨va,vm,vc,rfl⟩:=HQ.out.slice
          by_cases hjl:i2 < m
          · obtain ⟨y, hy⟩ : ∃ r, O[i2]? = some r := ⟨_, List.getElem?_eq_getElem (by rw [HM.out]; exact hjl)⟩
            have HYK:Hid (O[i2]? = some y):=hy
            obtain ⟨b0,off,rfl,-,hb0,hc⟩:=HOX2.out i2 y hy
            have hcc:=fun e u he=>((HBW.out _ HQ.out.bl).cell (p:=⟨b0,off + (i2 * 4 + e),none⟩) hb0).trans (hc e u he)
            have c0:wr.cell? ⟨b0,off + i2 * 4,none⟩ = some (.int .i64 y.1):=hcc 0 _ rfl
            have c1:wr.cell? ⟨b0,off + i2 * 4 + 1,none⟩ = some (.int .i64 y.2.1):=hcc 1 _ rfl
            have c2:wr.cell? ⟨b0,off + i2 * 4 + 2,none⟩ = some (.int .i64 y.2.2.1):=hcc 2 _ rfl
            have c3:wr.cell? ⟨b0,off + i2 * 4 + 3,none⟩ = some (.int .i64 y.2.2.2):=hcc 3 _ rfl
            obtain ⟨e1,e2,e3⟩:=HWH.out.os y (List.mem_of_getElem? hy)
            have HLEN:Hid (ms.length<=60001):=by
              show ms.length<=60001
              rw [HMS.out,List.length_append,List.length_map,List.length_take]
              have:=HL2.out
              have:=HLS.out
              omega
            obtain ⟨b1,hb1⟩:∃ b,Sh.nb y.1 1 = b:=⟨_,rfl⟩
            obtain ⟨b2,hb2⟩:∃ b,Sh.nb y.2.1 6 = b:=⟨_,rfl⟩
            obtain ⟨b3,hb3⟩:∃ b,Ks.Ak.hbytes y.2.2.1 y.2.2.2 = b:=⟨_,rfl⟩
            have HB1:Hid (Sh.nb y.1 1 = b1/\Sh.nb y.2.1 6 = b2/\Ks.Ak.hbytes y.2.2.1 y.2.2.2 = b3):=⟨hb1,hb2,hb3⟩
            have hz1:b1.size = 1:=by rw [← hb1];exact (Sh.le1 e1).1
            have hz2:b2.size = 6:=by rw [← hb2];exact (Sh.le6 e2).1
            have hz3:b3.size = 7:=by rw [← hb3];exact Sh.hb_size e3
            have HC1:Hid (∀ V,Calls Tryz.prog 35 #[.int .i64 y.1,.int .i64 1] V fun e w'=>e = .returned (.string b1)/\Below V.heap.size V w'):=fun V=>by rw [← hb1];exact Ks.Rs.bytes_is (y.1) 1 V (by omega)
            have HC2:Hid (∀ V,Calls Tryz.prog 35 #[.int .i64 y.2.1,.int .i64 6] V fun e w'=>e = .returned (.string b2)/\Below V.heap.size V w'):=fun V=>by rw [← hb2];exact Ks.Rs.bytes_is (y.2.1) 6 V (by omega)
            have HC3:Hid (∀ V,Calls Tryz.prog 37 #[.agg #[.int .i64 y.2.2.1,.int .i64 y.2.2.2]] V fun e w'=>e = .returned (.string b3)/\Below V.heap.size V w'):=fun V=>by rw [← hb3];exact rtoH_any _ _ V (by have:=e3.1;omega) (by have:=e3.2;omega)
            have hq1:¬ 9223372036854775807 < b1.size + b2.size:=by omega
            have hq2:¬ 9223372036854775807 < b1.size + b2.size + b3.size:=by omega
            have hq3:¬ 9223372036854775807 < (b1 ++ b2).size + b3.size:=by rw [ByteArray.size_append];omega
            have HEQ:Hid ((3,b1 ++ b2 ++ b3) = Sh.opF y):=by show _ = _;unfold Sh.opF;rw [HB1.out.1,HB1.out.2.1,HB1.out.2.2]
            obtain ⟨B,hB⟩:∃ n,n = wr.heap.size:=⟨_,rfl⟩
            obtain ⟨W4,hW4⟩:∃ V,V = wr.alloc (.cells #[.int .i64 y.1,.int .i64 y.2.1,.int .i64 y.2.2.1,.int .i64 y.2.2.2] 57):=⟨_,rfl⟩
            have HP4:Hid (PB 45 27 A n0 ox ms (.slice va vm vc) w W4):=by show PB 45 27 A n0 ox ms (.slice va vm vc) w W4;rw [hW4];exact HQ.out.al _
            have HE4:Hid (W4.heap[B]? = some (.cells #[.int .i64 y.1,.int .i64 y.2.1,.int .i64 y.2.2.1,.int .i64 y.2.2.2] 57)):=by show _ = _;rw [hW4,hB];exact heap_alloc_new _ _
            have hjl':(i2:Int) < (m:Int):=by omega
            clear hb0 hc hcc hy e1 e2 e3 hb1 hb2 hb3 hz1 hz2 hz3 HQ
            go_wp2_with fail
            rw [← hW4,← hB]
            clear hW4 hB c0 c1 c2 c3
            refine wp_region_any (by kernel_rfl) ?_
            change wpAny _ _ _ _ _ _ _ (World.drew _)
            refine wpAny_take (i:=0) (v:=?vb0) rfl (by kernel_rfl) (by kernel_rfl) (by kernel_rfl) (fun _ _ _ h=>h) (Or.inl ⟨by rfl,?hb0⟩) ?rb0
            case hb0=>(intro w;go_simp;try with_reducible rfl)
            try simp only [Act.put,List.setIfInBounds_toArray,List.set_cons_zero,List.set_cons_succ]
            refine wpAny_take (i:=1) (v:=?vb1) rfl (by kernel_rfl) (by kernel_rfl) (by kernel_rfl) (fun _ _ _ h=>h) (Or.inl ⟨by rfl,?hb1⟩) ?rb1
            case hb1=>(intro w;go_simp;try with_reducible rfl)
            try simp only [Act.put,List.setIfInBounds_toArray,List.set_cons_zero,List.set_cons_succ]
            refine wpAny_take (i:=4) (v:=?vb4) rfl (by kernel_rfl) (by kernel_rfl) (by kernel_rfl) (fun _ _ _ h=>h) (Or.inl ⟨by rfl,?hb4⟩) ?rb4
            case hb4=>(intro w;go_simp;try with_reducible rfl)
            try simp only [Act.put,List.setIfInBounds_toArray,List.set_cons_zero,List.set_cons_succ]
            refine wpAny_take (i:=8) (v:=?vb8) rfl (by kernel_rfl) (by kernel_rfl) (by kernel_rfl) (fun _ _ _ h=>h) (Or.inl ⟨by rfl,?hb8⟩) ?rb8
            case hb8=>(intro w;go_simp;try with_reducible rfl)
            try simp only [Act.put,List.setIfInBounds_toArray,List.set_cons_zero,List.set_cons_succ]
            have HS:(fun V:World=>V.cell? ⟨B,0,none⟩ = some (.int .i64 y.1)/\V.cell? ⟨B,1,none⟩ = some (.int .i64 y.2.1)/\V.cell? ⟨B,2,none⟩ = some (.int .i64 y.2.2.1)/\V.cell? ⟨B,3,none⟩ = some (.int .i64 y.2.2.2)) W4.drew:=⟨cell_at HE4.out 0,cell_at HE4.out 1,cell_at HE4.out 2,cell_at HE4.out 3⟩
            refine Fst.any_of (late:=fun k=>[15].contains k) (S:=(fun V:World=>V.cell? ⟨B,0,none⟩ = some (.int .i64 y.1)/\V.cell? ⟨B,1,none⟩ = some (.int .i64 y.2.1)/\V.cell? ⟨B,2,none⟩ = some (.int .i64 y.2.2.1)/\V.cell? ⟨B,3,none⟩ = some (.int .i64 y.2.2.2))) _ _ _ _ ?_
            refine Fst.take (ls:=[15]) (i:=2) (v:=?vb2) rfl (by kernel_rfl) (by kernel_rfl) (by kernel_rfl) (by kernel_rfl) (by kernel_rfl) (fun _ _ _ h=>h) (Or.inl ⟨by rfl,?hb2⟩) HS ?rb2
            case hb2=>(rintro V ⟨s0,s1,s2,s3⟩;go_simp;try with_reducible rfl)
            try simp only [Act.put,List.setIfInBounds_toArray,List.set_cons_zero,List.set_cons_succ]
            refine Fst.take (ls:=[15]) (i:=5) (v:=?vb5) rfl (by kernel_rfl) (by kernel_rfl) (by kernel_rfl) (by kernel_rfl) (by kernel_rfl) (fun _ _ _ h=>h) (Or.inl ⟨by rfl,?hb5⟩) HS ?rb5
            case hb5=>(rintro V ⟨s0,s1,s2,s3⟩;go_simp;try with_reducible rfl)
            try simp only [Act.put,List.setIfInBounds_toArray,List.set_cons_zero,List.set_cons_succ]
            refine Fst.take (ls:=[15]) (i:=9) (v:=?vb9) rfl (by kernel_rfl) (by kernel_rfl) (by kernel_rfl) (by kernel_rfl) (by kernel_rfl) (fun _ _ _ h=>h) (Or.inl ⟨by rfl,?hb9⟩) HS ?rb9
            case hb9=>(rintro V ⟨s0,s1,s2,s3⟩;go_simp;try with_reducible rfl)
            try simp only [Act.put,List.setIfInBounds_toArray,List.set_cons_zero,List.set_cons_succ]
            clear HS
            refine Fst.one (late:=fun k=>[15].contains k) (i:=3) (by kernel_rfl) rfl (fun K hK=>?_)
            go_simp
            refine (HC1.out W4.drew).mono ?_
            rintro e wc1 ⟨rfl,hb⟩
            have HP1:Hid (PB 45 27 A n0 ox ms (.slice va vm vc) w wc1):=HP4.out.drew.up hb
            have HE1:Hid (wc1.heap[B]? = some (.cells #[.int .i64 y.1,.int .i64 y.2.1,.int .i64 y.2.2.1,.int .i64 y.2.2.2] 57)):=(hb.block _ (Array.getElem?_eq_some_iff.1 HE4.out).1).trans HE4.out
            clear hb
            (try go_wp2_with fail)
            have HS:(fun V:World=>V.cell? ⟨B,0,none⟩ = some (.int .i64 y.1)/\V.cell? ⟨B,1,none⟩ = some (.int .i64 y.2.1)/\V.cell? ⟨B,2,none⟩ = some (.int .i64 y.2.2.1)/\V.cell? ⟨B,3,none⟩ = some (.int .i64 y.2.2.2)) wc1:=⟨cell_at HE1.out 0,cell_at HE1.out 1,cell_at HE1.out 2,cell_at HE1.out 3⟩
            refine hK _ _ HS ?_
            clear hK K
            try simp only [Act.put,List.setIfInBounds_toArray,List.set_cons_zero,List.set_cons_succ]
            clear HS
            refine Fst.one (late:=fun k=>[15].contains k) (i:=6) (by kernel_rfl) rfl (fun K hK=>?_)
            go_simp
            refine (HC2.out wc1).mono ?_
            rintro e wc2 ⟨rfl,hb⟩
            have HP2:Hid (PB 45 27 A n0 ox ms (.slice va vm vc) w wc2):=HP1.out.up hb
            have HE2:Hid (wc2.heap[B]? = some (.cells #[.int .i64 y.1,.int .i64 y.2.1,.int .i64 y.2.2.1,.int .i64 y.2.2.2] 57)):=(hb.block _ (Array.getElem?_eq_some_iff.1 HE1.out).1).trans HE1.out
            clear hb
            (try go_wp2_with fail)
            have HS:(fun V:World=>V.cell? ⟨B,0,none⟩ = some (.int .i64 y.1)/\V.cell? ⟨B,1,none⟩ = some (.int .i64 y.2.1)/\V.cell? ⟨B,2,none⟩ = some (.int .i64 y.2.2.1)/\V.cell? ⟨B,3,none⟩ = some (.int .i64 y.2.2.2)) wc2:=⟨cell_at HE2.out 0,cell_at HE2.out 1,cell_at HE2.out 2,cell_at HE2.out 3⟩
            refine hK _ _ HS ?_
            clear hK K
            try simp only [Act.put,List.setIfInBounds_toArray,List.set_cons_zero,List.set_cons_succ]
            refine Fst.take (ls:=[15]) (i:=7) (v:=?vb7) rfl (by kernel_rfl) (by kernel_rfl) (by kernel_rfl) (by kernel_rfl) (by kernel_rfl) (fun _ _ _ h=>h) (Or.inl ⟨by rfl,?hb7⟩) HS ?rb7
            case hb7=>(rintro V ⟨s0,s1,s2,s3⟩;go_simp;try with_reducible rfl)
            try simp only [Act.put,List.setIfInBounds_toArray,List.set_cons_zero,List.set_cons_succ]
            clear HS
            refine Fst.one (late:=fun k=>[15].contains k) (i:=10) (by kernel_rfl) rfl (fun K hK=>?_)
            go_simp
            refine (HC3.out wc2).mono ?_
            rintro e wc3 ⟨rfl,hb⟩
            have HP3:Hid (PB 45 27 A n0 ox ms (.slice va vm vc) w wc3):=HP2.out.up hb
            have HE3:Hid (wc3.heap[B]? = some (.cells #[.int .i64 y.1,.int .i64 y.2.1,.int .i64 y.2.2.1,.int .i64 y.2.2.2] 57)):=(hb.block _ (Array.getElem?_eq_some_iff.1 HE2.out).1).trans HE2.out
            clear hb
            (try go_wp2_with fail)
            have HS:(fun V:World=>V.cell? ⟨B,0,none⟩ = some (.int .i64 y.1)/\V.cell? ⟨B,1,none⟩ = some (.int .i64 y.2.1)/\V.cell? ⟨B,2,none⟩ = some (.int .i64 y.2.2.1)/\V.cell? ⟨B,3,none⟩ = some (.int .i64 y.2.2.2)) wc3:=⟨cell_at HE3.out 0,cell_at HE3.out 1,cell_at HE3.out 2,cell_at HE3.out 3⟩
            refine hK _ _ HS ?_
            clear hK K
            try simp only [Act.put,List.setIfInBounds_toArray,List.set_cons_zero,List.set_cons_succ]
            refine Fst.take (ls:=[15]) (i:=11) (v:=?vb11) rfl (by kernel_rfl) (by kernel_rfl) (by kernel_rfl) (by kernel_rfl) (by kernel_rfl) (fun _ _ _ h=>h) (Or.inl ⟨by rfl,?hb11⟩) HS ?rb11
            case hb11=>(rintro V ⟨s0,s1,s2,s3⟩;go_simp;try with_reducible rfl)
            try simp only [Act.put,List.setIfInBounds_toArray,List.set_cons_zero,List.set_cons_succ]
            refine Fst.take (ls:=[15]) (i:=12) (v:=?vb12) rfl (by kernel_rfl) (by kernel_rfl) (by kernel_rfl) (by kernel_rfl) (by kernel_rfl) (fun _ _ _ h=>h) (Or.inl ⟨by rfl,?hb12⟩) HS ?rb12
            case hb12=>(rintro V ⟨s0,s1,s2,s3⟩;go_simp;try with_reducible rfl)
            try simp only [Act.put,List.setIfInBounds_toArray,List.set_cons_zero,List.set_cons_succ]
            clear HS
            refine Fst.one (late:=fun k=>[15].contains k) (i:=13) (by kernel_rfl) rfl (fun K hK=>?_)
            go_simp
            (try go_wp2_with fail)
            obtain ⟨W6,hW6⟩:∃ V,V = wc3.alloc (.cells #[.int .i64 3,.string (b1 ++ b2 ++ b3)] 45):=⟨_,rfl⟩
            have HP6:Hid (PB 45 27 A n0 ox ms (.slice va vm vc) w W6):=by show PB 45 27 A n0 ox ms (.slice va vm vc) w W6;rw [hW6];exact HP3.out.al _
            have HE6:Hid (W6.heap[B]? = some (.cells #[.int .i64 y.1,.int .i64 y.2.1,.int .i64 y.2.2.1,.int .i64 y.2.2.2] 57)):=by show _ = _;rw [hW6];exact (Below.heap_alloc _ _ _ (Array.getElem?_eq_some_iff.1 HE3.out).1).trans HE3.out
            have HX6:Hid (W6.heap[wc3.heap.size]? = some (.cells #[.int .i64 3,.string (b1 ++ b2 ++ b3)] 45)):=by show _ = _;rw [hW6];exact heap_alloc_new _ _
            rw [← hW6]
            have HS:(fun V:World=>V.cell? ⟨B,0,none⟩ = some (.int .i64 y.1)/\V.cell? ⟨B,1,none⟩ = some (.int .i64 y.2.1)/\V.cell? ⟨B,2,none⟩ = some (.int .i64 y.2.2.1)/\V.cell? ⟨B,3,none⟩ = some (.int .i64 y.2.2.2)) W6:=⟨cell_at HE6.out 0,cell_at HE6.out 1,cell_at HE6.out 2,cell_at HE6.out 3⟩
            refine hK _ _ HS ?_
            clear hK K hW6
            try simp only [Act.put,List.setIfInBounds_toArray,List.set_cons_zero,List.set_cons_succ]
            clear HS
            refine Fst.one (late:=fun k=>[15].contains k) (i:=14) (by kernel_rfl) rfl (fun K hK=>?_)
            obtain ⟨i0,hi,hz0,hz1,hz2⟩:=Es.info_parts infoU
            refine step_row rfl _ _ _ rfl Sh.EF (fun b=>n0<=b) n0 45 i0 (.agg #[.int .i64 0,.string ⟨#[]⟩]) 24 Tryz.underlying41 hi hz0 hz1 hz2 rfl (.slice va vm vc) ms rfl HP6.out.row _ [(3,b1 ++ b2 ++ b3)] rfl (row_one (f:=(3,b1 ++ b2 ++ b3)) HX6.out (by have:=HP3.out.sz;omega)).at (by have:=HLEN.out;unfold maxLen;simp;omega) (by have:=HLEN.out;simp;omega) HP6.out.sz ?_
            intro v9 w9 g1 g2 _
            have HP9:Hid (PB 45 27 A n0 ox (ms ++ [Sh.opF y]) v9 w w9):=by have h:=HP6.out.app (by decide) g1 g2;rw [HEQ.out] at h;exact h
            have HS:(fun V:World=>V.cell? ⟨B,0,none⟩ = some (.int .i64 y.1)/\V.cell? ⟨B,1,none⟩ = some (.int .i64 y.2.1)/\V.cell? ⟨B,2,none⟩ = some (.int .i64 y.2.2.1)/\V.cell? ⟨B,3,none⟩ = some (.int .i64 y.2.2.2)) w9:=⟨cell_at (PB.other HE6.out HP6.out.row (by decide) g2) 0,cell_at (PB.other HE6.out HP6.out.row (by decide) g2) 1,cell_at (PB.other HE6.out HP6.out.row (by decide) g2) 2,cell_at (PB.other HE6.out HP6.out.row (by decide) g2) 3⟩
            refine hK _ _ HS ?_
            clear hK K g1 g2
            try simp only [Act.put,List.setIfInBounds_toArray,List.set_cons_zero,List.set_cons_succ]
            refine Fst.rest (by kernel_rfl) ?_
            clear HS
            refine wpAny_ready (rs:=[15]) (by kernel_rfl) (by simp) ?_
            refine AllReady.cons rfl (fun K hK=>?_) AllReady.nil
            go_simp
            (try go_wp2_with fail)
            first | (refine hK _ _ ?_;clear hK K) | skip
            try simp only [Act.put,List.setIfInBounds_toArray,List.set_cons_zero,List.set_cons_succ]
            refine wpAny_done (by kernel_rfl) ?_ _
            clear HP4 HE4 HP1 HE1 HP2 HE2 HP3 HE3 HP6 HE6 HX6 HC1 HC2 HC3 hq1 hq2 hq3
            obtain ⟨v9a,v9m,v9c,rfl⟩:=HP9.out.slice
            go_wp2
            go_roundw
            case rel=>exact ⟨i2 + 1,_,_,by omega,by go_num,rfl,HP9,by show _ = _;rw [HMS.out,Sh.map_take _ HYK.out,List.append_assoc]⟩
            case measure=>simp [intOf];omega
          · obtain rfl : i2 = m := by omega
            have HMS2:Hid (ms = (1,bD) :: ((pl L).map Sh.inoF ++ O.map Sh.opF)):=by show _ = _;rw [HMS.out,HLS2.out,List.take_of_length_le (by rw [HM.out];exact Nat.le_refl _)];rfl
            have HL3:Hid (ms.length<=40001):=by
              show ms.length<=40001
              rw [HMS.out,List.length_append,List.length_map,List.length_take]
              have:=HL2.out
              have:=HLS.out
              omega
            have HOE:Hid (wr.heap[A]? = some (.cells #[.slice p j c,.slice q i2 d,.slice u k z,.int .i64 dn] 27)):=by have h:=HQ.out.box;rw [HOX.out] at h;exact h
            have c2:wr.cell? ⟨A,2,none⟩ = some (.slice u k z):=cell_at HOE.out 2
            clear HMS
            go_wp2_with fail
            clear c2 HOE
            go_loopw [4,68] (fun g i wr=>∃ (i3:Nat) (v:Value) (ns:List Sh.F),i3<=k/\i = .int .i64 i3/\g = v/\Hid (PB 45 27 A n0 ox ns v w wr)/\Hid (ns = ms ++ (Z.take i3).map Sh.seF)) (fun _ i _=>k - (intOf i).toNat)
            case atStart=>exact ⟨0,_,_,Nat.zero_le _,rfl,rfl,HQ,by show _ = _;simp⟩
            case round =>
              obtain ⟨i3,v,ns,hi3,rfl,rfl,HT,HNS⟩:=hrel
              obtain ⟨va,vm,vc,rfl⟩:=HT.out.slice
              by_cases hkl:i3 < k
              · obtain ⟨y, hy⟩ : ∃ r, Z[i3]? = some r := ⟨_, List.getElem?_eq_getElem (by rw [HK.out]; exact hkl)⟩
                have HYK:Hid (Z[i3]? = some y):=hy
                obtain ⟨b0,off,rfl,-,hb0,hc⟩:=HZX.out i3 y hy
                obtain ⟨c0,c1,c2⟩:=Es.sea_cells (HBW.out _ HT.out.bl) hb0 hc
                obtain ⟨e1,e2,e3⟩:=HWH.out.zs y (List.mem_of_getElem? hy)
                have HLEN:Hid (ns.length<=60001):=by
                  show ns.length<=60001
                  rw [HNS.out,List.length_append,List.length_map,List.length_take]
                  have:=HL3.out
                  have:=HLS.out
                  omega
                obtain ⟨b1,hb1⟩:∃ b,Sh.nb y.1 6 = b:=⟨_,rfl⟩
                obtain ⟨b2,hb2⟩:∃ b,Sh.nb y.2.1 6 = b:=⟨_,rfl⟩
                have HB1:Hid (Sh.nb y.1 6 = b1/\Sh.nb y.2.1 6 = b2):=⟨hb1,hb2⟩
                have hz1:b1.size = 6:=by rw [← hb1];exact (Sh.le6 e1).1
                have hz2:b2.size = 6:=by rw [← hb2];exact (Sh.le6 e2).1
                have HC1:Hid (∀ V,Calls Tryz.prog 35 #[.int .i64 y.1,.int .i64 6] V fun e w'=>e = .returned (.string b1)/\Below V.heap.size V w'):=fun V=>by rw [← hb1];exact Ks.Rs.bytes_is (y.1) 6 V (by omega)
                have HC2:Hid (∀ V,Calls Tryz.prog 35 #[.int .i64 y.2.1,.int .i64 6] V fun e w'=>e = .returned (.string b2)/\Below V.heap.size V w'):=fun V=>by rw [← hb2];exact Ks.Rs.bytes_is (y.2.1) 6 V (by omega)
                have hq1:¬ 9223372036854775807 < b1.size + b2.size:=by omega
                have hq2:¬ 9223372036854775807 < b1.size + b2.size + y.2.2.size:=by omega
                have hq3:¬ 9223372036854775807 < (b1 ++ b2).size + y.2.2.size:=by rw [ByteArray.size_append];omega
                have HEQ:Hid ((4,b1 ++ b2 ++ y.2.2) = Sh.seF y):=by show _ = _;unfold Sh.seF;rw [HB1.out.1,HB1.out.2]
                obtain ⟨B,hB⟩:∃ n,n = wr.heap.size:=⟨_,rfl⟩
                obtain ⟨W4,hW4⟩:∃ V,V = wr.alloc (.cells #[.int .i64 y.1,.int .i64 y.2.1,.string y.2.2] 60):=⟨_,rfl⟩
                have HP4:Hid (PB 45 27 A n0 ox ns (.slice va vm vc) w W4):=by show PB 45 27 A n0 ox ns (.slice va vm vc) w W4;rw [hW4];exact HT.out.al _
                have HE4:Hid (W4.heap[B]? = some (.cells #[.int .i64 y.1,.int .i64 y.2.1,.string y.2.2] 60)):=by show _ = _;rw [hW4,hB];exact heap_alloc_new _ _
                have hkl':(i3:Int) < (k:Int):=by omega
                clear hb0 hc hy e1 e2 e3 hb1 hb2 hz1 hz2 HT
                go_wp2_with fail
                rw [← hW4,← hB]
                clear hW4 hB c0 c1 c2
                refine wp_region_any (by kernel_rfl) ?_
                change wpAny _ _ _ _ _ _ _ (World.drew _)
                refine wpAny_take (i:=0) (v:=?vc0) rfl (by kernel_rfl) (by kernel_rfl) (by kernel_rfl) (fun _ _ _ h=>h) (Or.inl ⟨by rfl,?hc0⟩) ?rc0
                case hc0=>(intro w;go_simp;try with_reducible rfl)
                try simp only [Act.put,List.setIfInBounds_toArray,List.set_cons_zero,List.set_cons_succ]
                refine wpAny_take (i:=1) (v:=?vc1) rfl (by kernel_rfl) (by kernel_rfl) (by kernel_rfl) (fun _ _ _ h=>h) (Or.inl ⟨by rfl,?hc1⟩) ?rc1
                case hc1=>(intro w;go_simp;try with_reducible rfl)
                try simp only [Act.put,List.setIfInBounds_toArray,List.set_cons_zero,List.set_cons_succ]
                refine wpAny_take (i:=4) (v:=?vc4) rfl (by kernel_rfl) (by kernel_rfl) (by kernel_rfl) (fun _ _ _ h=>h) (Or.inl ⟨by rfl,?hc4⟩) ?rc4
                case hc4=>(intro w;go_simp;try with_reducible rfl)
                try simp only [Act.put,List.setIfInBounds_toArray,List.set_cons_zero,List.set_cons_succ]
                refine wpAny_take (i:=8) (v:=?vc8) rfl (by kernel_rfl) (by kernel_rfl) (by kernel_rfl) (fun _ _ _ h=>h) (Or.inl ⟨by rfl,?hc8⟩) ?rc8
                case hc8=>(intro w;go_simp;try with_reducible rfl)
                try simp only [Act.put,List.setIfInBounds_toArray,List.set_cons_zero,List.set_cons_succ]
                have HS:(fun V:World=>V.cell? ⟨B,0,none⟩ = some (.int .i64 y.1)/\V.cell? ⟨B,1,none⟩ = some (.int .i64 y.2.1)/\V.cell? ⟨B,2,none⟩ = some (.string y.2.2)) W4.drew:=⟨cell_at HE4.out 0,cell_at HE4.out 1,cell_at HE4.out 2⟩
                refine Fst.any_of (late:=fun k=>[14].contains k) (S:=(fun V:World=>V.cell? ⟨B,0,none⟩ = some (.int .i64 y.1)/\V.cell? ⟨B,1,none⟩ = some (.int .i64 y.2.1)/\V.cell? ⟨B,2,none⟩ = some (.string y.2.2))) _ _ _ _ ?_
                refine Fst.take (ls:=[14]) (i:=2) (v:=?vc2) rfl (by kernel_rfl) (by kernel_rfl) (by kernel_rfl) (by kernel_rfl) (by kernel_rfl) (fun _ _ _ h=>h) (Or.inl ⟨by rfl,?hc2⟩) HS ?rc2
                case hc2=>(rintro V ⟨s0,s1,s2⟩;go_simp;try with_reducible rfl)
                try simp only [Act.put,List.setIfInBounds_toArray,List.set_cons_zero,List.set_cons_succ]
                refine Fst.take (ls:=[14]) (i:=5) (v:=?vc5) rfl (by kernel_rfl) (by kernel_rfl) (by kernel_rfl) (by kernel_rfl) (by kernel_rfl) (fun _ _ _ h=>h) (Or.inl ⟨by rfl,?hc5⟩) HS ?rc5
                case hc5=>(rintro V ⟨s0,s1,s2⟩;go_simp;try with_reducible rfl)
                try simp only [Act.put,List.setIfInBounds_toArray,List.set_cons_zero,List.set_cons_succ]
                refine Fst.take (ls:=[14]) (i:=9) (v:=?vc9) rfl (by kernel_rfl) (by kernel_rfl) (by kernel_rfl) (by kernel_rfl) (by kernel_rfl) (fun _ _ _ h=>h) (Or.inl ⟨by rfl,?hc9⟩) HS ?rc9
                case hc9=>(rintro V ⟨s0,s1,s2⟩;go_simp;try with_reducible rfl)
                try simp only [Act.put,List.setIfInBounds_toArray,List.set_cons_zero,List.set_cons_succ]
                clear HS
                refine Fst.one (late:=fun k=>[14].contains k) (i:=3) (by kernel_rfl) rfl (fun K hK=>?_)
                go_simp
                refine (HC1.out W4.drew).mono ?_
                rintro e wc1 ⟨rfl,hb⟩
                have HP1:Hid (PB 45 27 A n0 ox ns (.slice va vm vc) w wc1):=HP4.out.drew.up hb
                have HE1:Hid (wc1.heap[B]? = some (.cells #[.int .i64 y.1,.int .i64 y.2.1,.string y.2.2] 60)):=(hb.block _ (Array.getElem?_eq_some_iff.1 HE4.out).1).trans HE4.out
                clear hb
                (try go_wp2_with fail)
                have HS:(fun V:World=>V.cell? ⟨B,0,none⟩ = some (.int .i64 y.1)/\V.cell? ⟨B,1,none⟩ = some (.int .i64 y.2.1)/\V.cell? ⟨B,2,none⟩ = some (.string y.2.2)) wc1:=⟨cell_at HE1.out 0,cell_at HE1.out 1,cell_at HE1.out 2⟩
                refine hK _ _ HS ?_
                clear hK K
                try simp only [Act.put,List.setIfInBounds_toArray,List.set_cons_zero,List.set_cons_succ]
                clear HS
                refine Fst.one (late:=fun k=>[14].contains k) (i:=6) (by kernel_rfl) rfl (fun K hK=>?_)
                go_simp
                refine (HC2.out wc1).mono ?_
                rintro e wc2 ⟨rfl,hb⟩
                have HP2:Hid (PB 45 27 A n0 ox ns (.slice va vm vc) w wc2):=HP1.out.up hb
                have HE2:Hid (wc2.heap[B]? = some (.cells #[.int .i64 y.1,.int .i64 y.2.1,.string y.2.2] 60)):=(hb.block _ (Array.getElem?_eq_some_iff.1 HE1.out).1).trans HE1.out
                clear hb
                (try go_wp2_with fail)
                have HS:(fun V:World=>V.cell? ⟨B,0,none⟩ = some (.int .i64 y.1)/\V.cell? ⟨B,1,none⟩ = some (.int .i64 y.2.1)/\V.cell? ⟨B,2,none⟩ = some (.string y.2.2)) wc2:=⟨cell_at HE2.out 0,cell_at HE2.out 1,cell_at HE2.out 2⟩
                refine hK _ _ HS ?_
                clear hK K
                try simp only [Act.put,List.setIfInBounds_toArray,List.set_cons_zero,List.set_cons_succ]
                refine Fst.take (ls:=[14]) (i:=7) (v:=?vc7) rfl (by kernel_rfl) (by kernel_rfl) (by kernel_rfl) (by kernel_rfl) (by kernel_rfl) (fun _ _ _ h=>h) (Or.inl ⟨by rfl,?hc7⟩) HS ?rc7
                case hc7=>(rintro V ⟨s0,s1,s2⟩;go_simp;try with_reducible rfl)
                try simp only [Act.put,List.setIfInBounds_toArray,List.set_cons_zero,List.set_cons_succ]
                refine Fst.take (ls:=[14]) (i:=10) (v:=?vc10) rfl (by kernel_rfl) (by kernel_rfl) (by kernel_rfl) (by kernel_rfl) (by kernel_rfl) (fun _ _ _ h=>h) (Or.inl ⟨by rfl,?hc10⟩) HS ?rc10
                case hc10=>(rintro V ⟨s0,s1,s2⟩;go_simp;try with_reducible rfl)
                try simp only [Act.put,List.setIfInBounds_toArray,List.set_cons_zero,List.set_cons_succ]
                refine Fst.take (ls:=[14]) (i:=11) (v:=?vc11) rfl (by kernel_rfl) (by kernel_rfl) (by kernel_rfl) (by kernel_rfl) (by kernel_rfl) (fun _ _ _ h=>h) (Or.inl ⟨by rfl,?hc11⟩) HS ?rc11
                case hc11=>(rintro V ⟨s0,s1,s2⟩;go_simp;try with_reducible rfl)
                try simp only [Act.put,List.setIfInBounds_toArray,List.set_cons_zero,List.set_cons_succ]
                clear HS
                refine Fst.one (late:=fun k=>[14].contains k) (i:=12) (by kernel_rfl) rfl (fun K hK=>?_)
                go_simp
                (try go_wp2_with fail)
                obtain ⟨W6,hW6⟩:∃ V,V = wc2.alloc (.cells #[.int .i64 4,.string (b1 ++ b2 ++ y.2.2)] 45):=⟨_,rfl⟩
                have HP6:Hid (PB 45 27 A n0 ox ns (.slice va vm vc) w W6):=by show PB 45 27 A n0 ox ns (.slice va vm vc) w W6;rw [hW6];exact HP2.out.al _
                have HE6:Hid (W6.heap[B]? = some (.cells #[.int .i64 y.1,.int .i64 y.2.1,.string y.2.2] 60)):=by show _ = _;rw [hW6];exact (Below.heap_alloc _ _ _ (Array.getElem?_eq_some_iff.1 HE2.out).1).trans HE2.out
                have HX6:Hid (W6.heap[wc2.heap.size]? = some (.cells #[.int .i64 4,.string (b1 ++ b2 ++ y.2.2)] 45)):=by show _ = _;rw [hW6];exact heap_alloc_new _ _
                rw [← hW6]
                have HS:(fun V:World=>V.cell? ⟨B,0,none⟩ = some (.int .i64 y.1)/\V.cell? ⟨B,1,none⟩ = some (.int .i64 y.2.1)/\V.cell? ⟨B,2,none⟩ = some (.string y.2.2)) W6:=⟨cell_at HE6.out 0,cell_at HE6.out 1,cell_at HE6.out 2⟩
                refine hK _ _ HS ?_
                clear hK K hW6
                try simp only [Act.put,List.setIfInBounds_toArray,List.set_cons_zero,List.set_cons_succ]
                clear HS
                refine Fst.one (late:=fun k=>[14].contains k) (i:=13) (by kernel_rfl) rfl (fun K hK=>?_)
                obtain ⟨i0,hi,hz0,hz1,hz2⟩:=Es.info_parts infoU
                refine step_row rfl _ _ _ rfl Sh.EF (fun b=>n0<=b) n0 45 i0 (.agg #[.int .i64 0,.string ⟨#[]⟩]) 24 Tryz.underlying41 hi hz0 hz1 hz2 rfl (.slice va vm vc) ns rfl HP6.out.row _ [(4,b1 ++ b2 ++ y.2.2)] rfl (row_one (f:=(4,b1 ++ b2 ++ y.2.2)) HX6.out (by have:=HP2.out.sz;omega)).at (by have:=HLEN.out;unfold maxLen;simp;omega) (by have:=HLEN.out;simp;omega) HP6.out.sz ?_
                intro v9 w9 g1 g2 _
                have HP9:Hid (PB 45 27 A n0 ox (ns ++ [Sh.seF y]) v9 w w9):=by have h:=HP6.out.app (by decide) g1 g2;rw [HEQ.out] at h;exact h
                have HS:(fun V:World=>V.cell? ⟨B,0,none⟩ = some (.int .i64 y.1)/\V.cell? ⟨B,1,none⟩ = some (.int .i64 y.2.1)/\V.cell? ⟨B,2,none⟩ = some (.string y.2.2)) w9:=⟨cell_at (PB.other HE6.out HP6.out.row (by decide) g2) 0,cell_at (PB.other HE6.out HP6.out.row (by decide) g2) 1,cell_at (PB.other HE6.out HP6.out.row (by decide) g2) 2⟩
                refine hK _ _ HS ?_
                clear hK K g1 g2
                try simp only [Act.put,List.setIfInBounds_toArray,List.set_cons_zero,List.set_cons_succ]
                refine Fst.rest (by kernel_rfl) ?_
                clear HS
                refine wpAny_ready (rs:=[14]) (by kernel_rfl) (by simp) ?_
                refine AllReady.cons rfl (fun K hK=>?_) AllReady.nil
                go_simp
                (try go_wp2_with fail)
                first | (refine hK _ _ ?_;clear hK K) | skip
                try simp only [Act.put,List.setIfInBounds_toArray,List.set_cons_zero,List.set_cons_succ]
                refine wpAny_done (by kernel_rfl) ?_ _
                clear HP4 HE4 HP1 HE1 HP2 HE2 HP6 HE6 HX6 HC1 HC2 hq1 hq2 hq3
                obtain ⟨v9a,v9m,v9c,rfl⟩:=HP9.out.slice
                go_wp2
                go_roundw
                case rel=>exact ⟨i3 + 1,_,_,by omega,by go_num,rfl,HP9,by show _ = _;rw [HNS.out,Sh.map_take _ HYK.out,List.append_assoc]⟩
                case measure=>simp [intOf];omega
              · obtain rfl : i3 = k := by omega
                have HFI:Hid (ns = Sh.fS (pl L) O Z dn):=by
                  show ns = Sh.fS (pl L) O Z dn
                  rw [HNS.out,HMS2.out,List.take_of_length_le (by rw [HK.out];exact Nat.le_refl _),← HBD.out]
                  rfl
                have HEN:Hid ((Ks.Pl.encs ns).length<=1099511627776):=by
                  show (Ks.Pl.encs ns).length<=_
                  rw [HFI.out]
                  exact Sh.fS_le HWH.out HS.out
                have HFL:Hid (Ks.FieldsAt wr.heap.size wr (.slice va vm vc) ns):=row_fields HT.out.row
                have HBL:Hid (Below w.heap.size w wr):=HBW.out _ HT.out.bl
                have HOU:Hid (Ks.Pl.packOut ns = Sh.pkO (pl L) O Z dn/\Ks.Pl.packErr 1 ns = Sh.pkE (pl L) O Z dn):=by
                  show _/\_
                  rw [HFI.out]
                  exact ⟨by unfold Sh.pkO;rw [if_pos HR.out],by unfold Sh.pkE;rw [if_pos HR.out]⟩
                clear HP3
                go_wp2_with fail
                refine (Ks.refPack_any _ ns _ HFL.out HEN.out).mono ?_
                rintro e w9 ⟨rfl,hb⟩
                rw [HOU.out.1,HOU.out.2]
                have HB9:Hid (Below w.heap.size w w9):=HBL.out.trans (hb.mono HBL.out.size)
                clear hb
                go_wp2
                go_ret2
                exact ⟨rfl,HB9.out⟩
end Go.Proofs.YtggoccfddnpelaaGreat
