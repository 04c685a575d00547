/- RRefPk, RLate, as one. -/
import Derived.Test.YtggoccfddnpelaaGreatR34
namespace Go.Proofs.YtggoccfddnpelaaGreat.Ks.Rs
open Go.ChangeShapes Go.WideShapes Go.ChangeAt Go.RowKit Go.Deep
set_option maxRecDepth 100000
open Go.Proofs.YtggoccfddnpelaaGreat.Ks.Ak Go.Proofs.YtggoccfddnpelaaGreat.Ks.Rs.Ak
set_option maxHeartbeats 8000000 in
theorem repRefPack_any (r : Rep) (u : Value) (w : World) (hv : AtW EE w u r.ents) (hs : ∀ x ∈ r.ents, x.1.size ≤ maxLen) : Calls Tryz.prog 84 #[VR r u] w fun e w' => e = .returned (.tuple #[.string (Re.packOut r), .int .i64 (Re.packErr r)]) ∧ Below w.heap.size w w' := by
  obtain ⟨ao,cap,rfl,-,hx⟩:=(show AtW EE w u r.ents from hv).open
  have HV:Hid (AtW EE w (.slice ao r.ents.length cap) r.ents):=hv
  have HS:Hid (∀ x∈r.ents,x.1.size<=maxLen):=hs
  obtain ⟨z,hz⟩:∃ z,r.ents.length = z:=⟨_,rfl⟩
  rw [hz] at HV ⊢
  have HZ:Hid (r.ents.length = z):=hz
  have HX:Hid (∀ i x,r.ents[i]? = some x->∃ b off,ao = some ⟨b,off,none⟩/\True/\b < w.heap.size/\∀ k u,(EE.cells x)[k]? = some u->w.cell? ⟨b,off + (i * EE.sz + k),none⟩ = some u):=hx
  clear hv hs hz hx
  by_cases hr:Re.rightP r
  · have HR : Hid (Re.right r = true) := Re.right_iff.2 hr
    have HA:Hid (At.right r.k r.l r.s r.t = true):=hr.2.2.1
    have HPL:Hid (∀ k,(Pl.encs (Re.f4 r ++ Re.ef (r.ents.take k))).length<=4000):=Re.prefix_le hr
    have HM:Hid (r.ents.length<=64/\∀ x∈r.ents,(1<=x.2.1/\x.2.1<=1099511627776)/\Nm.ok x.1/\hokP x.2.2.1 x.2.2.2):=⟨hr.2.2.2.2.1.1,Re.entsP_mem hr.2.2.2.2.1.2 (Int.le_refl 0)⟩
    have hz64:z<=64:=by rw [← HZ.out];exact HM.out.1
    have HOE:Hid (Re.packErr r = 0):=by show Re.packErr r = 0;rw [Re.packErr,if_pos HR.out]
    have HBD:Hid ((r.e<=9223372036854775807/\r.n<=9223372036854775807)/\(r.no<=9223372036854775807/\r.gen<=9223372036854775807)/\r.data.size<=512):=by
      obtain ⟨⟨-,h1⟩,⟨⟨-,h2⟩,-,h3⟩,-,h4,-,-,h5⟩:=hr
      exact ⟨⟨by omega,by omega⟩,⟨by omega,by omega⟩,h4⟩
    have HT:Hid ((r.s<=9223372036854775807/\r.t<=9223372036854775807)/\r.k<=9223372036854775807/\r.l<=9223372036854775807):=by
      have h:=At.right_iff.1 hr.2.2.1
      unfold At.rightP at h
      exact ⟨⟨by omega,by omega⟩,by omega,by omega⟩
    clear hr
    go_enter Tryz.func84,Tryz.ntmps84
    go_wp2_with fail
    refine (rright_is r _ _ true (HV.out.al _) HS.out HR).mono ?_
    rintro e w1 ⟨rfl,hb1⟩
    have HB1:Hid (Below w.heap.size w w1):=((Below.refl _ _).alloc (Nat.le_refl _) _).trans (hb1.mono (by simp))
    have HA1:Hid (w1.heap[w.heap.size]? = some (BR r (.slice ao z cap))):=block_step (heap_alloc_new w _) hb1
    obtain ⟨c0,c1,c2,c3,c4,c5,c6,c7,c8,c9⟩:=ten_of HA1.out
    clear hb1
    go_wp2_with fail
    refine (arefPack_any r.k r.l r.s r.t _ HT.out.1.1 HT.out.1.2 HT.out.2.1 HT.out.2.2).mono ?_
    rintro e w2 ⟨rfl,hb2⟩
    have HB2:Hid (Below w.heap.size w w2):=HB1.out.trans (hb2.mono HB1.out.size)
    have HA2:Hid (w2.heap[w.heap.size]? = some (BR r (.slice ao z cap))):=block_step HA1.out hb2
    clear hb2 c0 c1 c2 c3 c4 c5 c6 c7 c8 c9
    obtain ⟨d0,d1,d2,d3,d4,d5,d6,d7,d8,d9⟩:=ten_of HA2.out
    have g0:=fun p:Grw w2=>p.cell d0
    have g1:=fun p:Grw w2=>p.cell d1
    have g2:=fun p:Grw w2=>p.cell d2
    have g3:=fun p:Grw w2=>p.cell d3
    have g4:=fun p:Grw w2=>p.cell d4
    have g5:=fun p:Grw w2=>p.cell d5
    have g6:=fun p:Grw w2=>p.cell d6
    have g7:=fun p:Grw w2=>p.cell d7
    have g8:=fun p:Grw w2=>p.cell d8
    have g9:=fun p:Grw w2=>p.cell d9
    clear d0 d1 d2 d3 d4 d5 d6 d7 d8 d9
    have HO4:Hid (Re.fl 1 (Pl.numOut r.e 2) (r.e != 0) ++ Re.fl 2 (rhand r.no r.gen) (hnz r.no r.gen) ++ Re.fl 3 (At.packOut r.k r.l r.s r.t) (r.k != 0) ++ Re.fl 4 r.data (!r.data.toList.isEmpty) = Pl.txt (Pl.encs (Re.f4 r))):=Re.ref_four HA.out
    have s1:=numOut_le r.e 2
    have s2:=rhand_le r.no r.gen
    have s3:=Re.apack_le r.k r.l r.s r.t
    have s4:r.data.size<=512:=HBD.out.2.2
    obtain ⟨a1,ha1⟩:∃ a,Pl.numOut r.e 2 = a:=⟨_,rfl⟩
    obtain ⟨a2,ha2⟩:∃ a,rhand r.no r.gen = a:=⟨_,rfl⟩
    obtain ⟨a3,ha3⟩:∃ a,At.packOut r.k r.l r.s r.t = a:=⟨_,rfl⟩
    obtain ⟨q,hq⟩:∃ q,hnz r.no r.gen = q:=⟨_,rfl⟩
    rw [ha1] at s1
    rw [ha2] at s2
    rw [ha3] at s3
    rw [ha1,ha2,ha3,hq] at HO4
    obtain ⟨b1,hb1⟩:∃ b,Re.fl 1 a1 (r.e != 0) = b:=⟨_,rfl⟩
    obtain ⟨b2,hb2⟩:∃ b,Re.fl 2 a2 q = b:=⟨_,rfl⟩
    obtain ⟨b3,hb3⟩:∃ b,Re.fl 3 a3 (r.k != 0) = b:=⟨_,rfl⟩
    obtain ⟨b4,hb4⟩:∃ b,Re.fl 4 r.data (!r.data.toList.isEmpty) = b:=⟨_,rfl⟩
    have t1:=Re.fl_le 1 a1 (r.e != 0)
    have t2:=Re.fl_le 2 a2 q
    have t3:=Re.fl_le 3 a3 (r.k != 0)
    have t4:=Re.fl_le 4 r.data (!r.data.toList.isEmpty)
    rw [hb1] at t1
    rw [hb2] at t2
    rw [hb3] at t3
    rw [hb4] at t4
    rw [hb1,hb2,hb3,hb4] at HO4
    have q2:¬ 9223372036854775807 < b1.size + b2.size:=by omega
    have q3:¬ 9223372036854775807 < b1.size + b2.size + b3.size:=by omega
    have q4:¬ 9223372036854775807 < b1.size + b2.size + b3.size + b4.size:=by omega
    have HN1:Hid (∀ V,Calls Tryz.prog 35 #[.int .i64 r.e,.int .i64 2] V fun e w'=>e = .returned (.string a1)/\Below V.heap.size V w'):=fun V=>by rw [← ha1];exact bytes_is r.e 2 V HBD.out.1.1
    have HN2:Hid (∀ V,Calls Tryz.prog 114 #[VH r.no r.gen] V fun e w'=>e = .returned (.string a2)/\Below V.heap.size V w'):=fun V=>by rw [← ha2];exact rhand_is r.no r.gen V HBD.out.2.1.1 HBD.out.2.1.2
    have HF1:Hid (∀ V,Calls Tryz.prog 113 #[.int .i64 1,.string a1,.bool (r.e != 0)] V fun e w'=>e = .returned (.string b1)/\Below V.heap.size V w'):=fun V=>by rw [← hb1];exact field_is 1 a1 _ V (by omega) (by omega) (by omega)
    have HF2:Hid (∀ V,Calls Tryz.prog 113 #[.int .i64 2,.string a2,.bool q] V fun e w'=>e = .returned (.string b2)/\Below V.heap.size V w'):=fun V=>by rw [← hb2];exact field_is 2 a2 _ V (by omega) (by omega) (by omega)
    have HF3:Hid (∀ V,Calls Tryz.prog 113 #[.int .i64 3,.string a3,.bool (r.k != 0)] V fun e w'=>e = .returned (.string b3)/\Below V.heap.size V w'):=fun V=>by rw [← hb3];exact field_is 3 a3 _ V (by omega) (by omega) (by omega)
    have HF4:Hid (∀ V,Calls Tryz.prog 113 #[.int .i64 4,.string r.data,.bool (!r.data.toList.isEmpty)] V fun e w'=>e = .returned (.string b4)/\Below V.heap.size V w'):=fun V=>by rw [← hb4];exact field_is 4 r.data _ V (by omega) (by omega) (by omega)
    have HA3:Hid (At.packOut r.k r.l r.s r.t = a3):=ha3
    rw [HA3.out]
    have hne9:Nonempty (Grw w2):=grw_some w2
    have key:((r.no != 0) = true/\q = true)∨((r.no != 0) = false/\(r.gen != 0) = true/\q = true)∨((r.no != 0) = false/\(r.gen != 0) = false/\q = false):=by
      rw [← hq]
      unfold hnz
      by_cases h1:r.no = 0
      · by_cases h2 : r.gen = 0
        · exact .inr (.inr (by simp [h1,h2]))
        · exact .inr (.inl (by simp [h1,h2]))
      · exact .inl (by simp [h1])
    clear ha1 ha2 ha3 hq hb1 hb2 hb3 hb4 t1 t2 t3 t4 s1 s2 s3
    go_wp2_with fail
    rcases key with ⟨k1,rfl⟩ | ⟨k1,k2,rfl⟩ | ⟨k1,k2,rfl⟩
    all_goals
      refine wp_region_grw (by kernel_rfl) (by kernel_rfl) ?_
      repeat (go_big_quiet_step (first
        | (go_at_call 35;with_reducible refine calls_grw (Grw.grown _) (HN1.out _))
        | (go_at_call 114;with_reducible refine calls_grw (Grw.grown _) (HN2.out _))
        | (go_at_call 113;with_reducible refine calls_grw (Grw.grown _) (HF1.out _))
        | (go_at_call 113;with_reducible refine calls_grw (Grw.grown _) (HF2.out _))
        | (go_at_call 113;with_reducible refine calls_grw (Grw.grown _) (HF3.out _))
        | (go_at_call 113;with_reducible refine calls_grw (Grw.grown _) (HF4.out _))))
      rintro w9 ⟨p9,rfl⟩
      have HB9:Hid (Below w.heap.size w p9.out):=HB2.out.trans (p9.below.mono HB2.out.size)
      have HA9:Hid (p9.out.heap[w.heap.size]? = some (BR r (.slice ao z cap))):=block_step HA2.out p9.below
      rw [HO4.out]
      clear g0 g1 g2 g3 g4 g5 g6 g7 g8 g9 k1 HN1 HN2 HF1 HF2 HF3 HF4 HB2 HA2 HB1 HA1 hne9 q2 q3 q4
      generalize p9.out = w9 at *
      have c8:w9.cell? ⟨w.heap.size,8,none⟩ = some (.slice ao z cap):=(ten_of HA9.out).2.2.2.2.2.2.2.2.1
      go_wp2_with fail
      clear c8
      go_loopw [6,57] (fun s i wr=>∃ k:Nat,k<=z/\i = .int .i64 k/\s = .string (Pl.txt (Pl.encs (Re.f4 r ++ Re.ef (r.ents.take k))))/\Hid (wr.heap[w.heap.size]? = some (BR r (.slice ao z cap)))/\Hid (Below w.heap.size w wr)) (fun _ i _=>z - (intOf i).toNat)
      case atStart=>exact ⟨0,Nat.zero_le _,rfl,by simp [Re.ef],HA9.out,HB9.out⟩
      case round =>
        obtain ⟨k,hk,rfl,rfl,HAK,HBK⟩:=hrel
        have hsz:=HBK.out.size
        have hlk:w.heap.size < wr.heap.size:=block_lt HAK.out
        by_cases hlt:k < z
        · obtain ⟨x, hxk⟩ : ∃ x, r.ents[k]? = some x := ⟨_, List.getElem?_eq_getElem (by rw [HZ.out]; exact hlt)⟩
          have HST:Hid (Pl.txt (Pl.encs (Re.f4 r ++ Re.ef (r.ents.take (k + 1)))) = Pl.txt (Pl.encs (Re.f4 r ++ Re.ef (r.ents.take k))) ++ Re.fl 5 (Pl.numOut x.2.1 6 ++ Pl.numOut x.2.2.1 1 ++ Pl.numOut x.2.2.2 6 ++ x.1) true):=Re.ents_step hxk
          have hxm:=HM.out.2 x (List.mem_of_getElem? hxk)
          have HXM:Hid ((x.2.1<=9223372036854775807/\x.2.2.1<=9223372036854775807)/\x.2.2.2<=9223372036854775807):=⟨⟨by have:=hxm.1;omega,by have:=hxm.2.2.1;omega⟩,by have:=hxm.2.2.2;omega⟩
          have sx:x.1.size<=32:=Re.ok_size hxm.2.1
          obtain ⟨bb,off,rfl,-,hB,hcx⟩:=HX.out k x hxk
          obtain ⟨c0,c1,c2,c3⟩:=four_at hcx HBK.out hB
          have sk:(Pl.txt (Pl.encs (Re.f4 r ++ Re.ef (r.ents.take k)))).size<=4000:=by rw [Pl.txt_size];exact HPL.out k
          clear hcx hxk hxm
          have hlt':(k:Int) < (z:Int):=by omega
          generalize Pl.txt (Pl.encs (Re.f4 r ++ Re.ef (r.ents.take k))) = S at *
          have u1:=numOut_le x.2.1 6
          have u2:=numOut_le x.2.2.1 1
          have u3:=numOut_le x.2.2.2 6
          obtain ⟨m1,hm1⟩:∃ m,Pl.numOut x.2.1 6 = m:=⟨_,rfl⟩
          obtain ⟨m2,hm2⟩:∃ m,Pl.numOut x.2.2.1 1 = m:=⟨_,rfl⟩
          obtain ⟨m3,hm3⟩:∃ m,Pl.numOut x.2.2.2 6 = m:=⟨_,rfl⟩
          rw [hm1] at u1
          rw [hm2] at u2
          rw [hm3] at u3
          rw [hm1,hm2,hm3] at HST
          have u4:=Re.fl_le 5 (m1 ++ m2 ++ m3 ++ x.1) true
          obtain ⟨m5,hm5⟩:∃ m,Re.fl 5 (m1 ++ m2 ++ m3 ++ x.1) true = m:=⟨_,rfl⟩
          have u5:(m1 ++ m2 ++ m3 ++ x.1).size = m1.size + m2.size + m3.size + x.1.size:=by simp only [ByteArray.size_append]
          rw [hm5,u5] at u4
          rw [hm5] at HST
          have p2:¬ 9223372036854775807 < m1.size + m2.size:=by omega
          have p3:¬ 9223372036854775807 < m1.size + m2.size + m3.size:=by omega
          have p4:¬ 9223372036854775807 < m1.size + m2.size + m3.size + x.1.size:=by omega
          have p5:¬ 9223372036854775807 < S.size + m5.size:=by omega
          have HG1:Hid (∀ V,Calls Tryz.prog 35 #[.int .i64 x.2.1,.int .i64 6] V fun e w'=>e = .returned (.string m1)/\Below V.heap.size V w'):=fun V=>by rw [← hm1];exact bytes_is _ 6 V HXM.out.1.1
          have HG2:Hid (∀ V,Calls Tryz.prog 35 #[.int .i64 x.2.2.1,.int .i64 1] V fun e w'=>e = .returned (.string m2)/\Below V.heap.size V w'):=fun V=>by rw [← hm2];exact bytes_is _ 1 V HXM.out.1.2
          have HG3:Hid (∀ V,Calls Tryz.prog 35 #[.int .i64 x.2.2.2,.int .i64 6] V fun e w'=>e = .returned (.string m3)/\Below V.heap.size V w'):=fun V=>by rw [← hm3];exact bytes_is _ 6 V HXM.out.2
          have HG5:Hid (∀ V,Calls Tryz.prog 113 #[.int .i64 5,.string (m1 ++ m2 ++ m3 ++ x.1),.bool true] V fun e w'=>e = .returned (.string m5)/\Below V.heap.size V w'):=fun V=>by rw [← hm5];exact field_is 5 _ _ V (by omega) (by omega) (by omega)
          obtain ⟨W,hW⟩:∃ W,W = wr.alloc (BE x):=⟨_,rfl⟩
          have HBW:Hid (Below w.heap.size w W):=by show Below w.heap.size w W;rw [hW];exact HBK.out.alloc hsz _
          have HAW:Hid (W.heap[w.heap.size]? = some (BR r (.slice (some ⟨bb,off,none⟩) z cap))):=by show W.heap[w.heap.size]? = _;rw [hW];exact (Below.heap_alloc _ _ _ hlk).trans HAK.out
          obtain ⟨d0,d1,d2,d3⟩:=ent_of (show W.heap[wr.heap.size]? = some (BE x) by rw [hW];exact heap_alloc_new wr _)
          have g0:=fun p:Grw W=>p.cell d0
          have g1:=fun p:Grw W=>p.cell d1
          have g2:=fun p:Grw W=>p.cell d2
          have g3:=fun p:Grw W=>p.cell d3
          have hne8:Nonempty (Grw W):=grw_some W
          clear hm1 hm2 hm3 hm5 u1 u2 u3 u4 u5 d0 d1 d2 d3
          go_wp2_with fail
          rw [← hW]
          clear hW c0 c1 c2 c3
          refine wp_region_grw (by kernel_rfl) (by kernel_rfl) ?_
          repeat (go_big_quiet_step (first
            | (go_at_call 35;with_reducible refine calls_grw (Grw.grown _) (HG1.out _))
            | (go_at_call 35;with_reducible refine calls_grw (Grw.grown _) (HG2.out _))
            | (go_at_call 35;with_reducible refine calls_grw (Grw.grown _) (HG3.out _))
            | (go_at_call 113;with_reducible refine calls_grw (Grw.grown _) (HG5.out _))))
          rintro w8 ⟨p8,rfl⟩
          have HB8:Hid (Below w.heap.size w p8.out):=HBW.out.trans (p8.below.mono HBW.out.size)
          have HA8:Hid (p8.out.heap[w.heap.size]? = some (BR r (.slice (some ⟨bb,off,none⟩) z cap))):=block_step HAW.out p8.below
          clear g0 g1 g2 g3
          go_wp2
          go_roundw
          case rel=>exact ⟨k + 1,by omega,by go_num,by rw [HST.out],HA8.out,HB8.out⟩
          case measure=>simp [intOf];omega
        · obtain rfl : k = z := by omega
          have HLS:Hid (Pl.txt (Pl.encs (Re.f5 r)) ++ Re.fl 6 (Pl.numOut r.n 6) (r.n != 0) = Re.packOut r):=Re.ref_last HR.out
          have HF5:Hid (Pl.txt (Pl.encs (Re.f4 r ++ Re.ef (r.ents.take k))) = Pl.txt (Pl.encs (Re.f5 r))):=by
            show Pl.txt (Pl.encs (Re.f4 r ++ Re.ef (r.ents.take k))) = _
            rw [List.take_of_length_le (by rw [HZ.out];exact Nat.le_refl _)]
            rfl
          have sk:(Pl.txt (Pl.encs (Re.f5 r))).size<=4000:=by rw [← HF5.out,Pl.txt_size];exact HPL.out k
          rw [HF5.out]
          generalize Pl.txt (Pl.encs (Re.f5 r)) = S at *
          have u1:=numOut_le r.n 6
          obtain ⟨m1,hm1⟩:∃ m,Pl.numOut r.n 6 = m:=⟨_,rfl⟩
          rw [hm1] at u1 HLS
          have u4:=Re.fl_le 6 m1 (r.n != 0)
          obtain ⟨m5,hm5⟩:∃ m,Re.fl 6 m1 (r.n != 0) = m:=⟨_,rfl⟩
          rw [hm5] at u4 HLS
          have p5:¬ 9223372036854775807 < S.size + m5.size:=by omega
          have HG1:Hid (∀ V,Calls Tryz.prog 35 #[.int .i64 r.n,.int .i64 6] V fun e w'=>e = .returned (.string m1)/\Below V.heap.size V w'):=fun V=>by rw [← hm1];exact bytes_is _ 6 V HBD.out.1.2
          have HG5:Hid (∀ V,Calls Tryz.prog 113 #[.int .i64 6,.string m1,.bool (r.n != 0)] V fun e w'=>e = .returned (.string m5)/\Below V.heap.size V w'):=fun V=>by rw [← hm5];exact field_is 6 _ _ V (by omega) (by omega) (by omega)
          have g9:=fun p:Grw wr=>p.cell (ten_of HAK.out).2.2.2.2.2.2.2.2.2
          have hne8:Nonempty (Grw wr):=grw_some wr
          clear hm1 hm5 u1 u4
          go_wp2_with fail
          refine wp_region_grw (by kernel_rfl) (by kernel_rfl) ?_
          repeat (go_big_quiet_step (first
            | (go_at_call 35;with_reducible refine calls_grw (Grw.grown _) (HG1.out _))
            | (go_at_call 113;with_reducible refine calls_grw (Grw.grown _) (HG5.out _))))
          rintro w8 ⟨p8,rfl⟩
          have HB8:Hid (Below w.heap.size w p8.out):=HBK.out.trans (p8.below.mono HBK.out.size)
          go_wp2
          go_ret2
          rw [← HLS.out,HOE.out]
          exact ⟨rfl,HB8.out⟩
  · have HR : Hid (Re.right r = false) := Re.wrong_iff.2 hr
    have HO:Hid (Re.packOut r = ⟨#[]⟩/\Re.packErr r = 4):=⟨by simp [Re.packOut,HR.out],by simp [Re.packErr,HR.out]⟩
    clear hr
    go_enter Tryz.func84,Tryz.ntmps84
    go_wp2_with fail
    refine (rright_is r _ _ false (HV.out.al _) HS.out HR).mono ?_
    rintro e w1 ⟨rfl,hb1⟩
    have HB1:Hid (Below w.heap.size w w1):=((Below.refl _ _).alloc (Nat.le_refl _) _).trans (hb1.mono (by simp))
    go_wp2
    go_ret2
    rw [HO.out.1,HO.out.2]
    exact ⟨rfl,HB1.out⟩
end Go.Proofs.YtggoccfddnpelaaGreat.Ks.Rs
namespace Go.Proofs.YtggoccfddnpelaaGreat.Ks.Rs
set_option maxRecDepth 100000
namespace Late
variable {P:Program} {ops:Array Oper} {Q:Exit->Act->World->Prop} {md:Region.Mode} {S:World->Prop} {k:Nat}
/-- Whatever order is picked from here on; and S holds as long as number k has not come up. -/
def any (P:Program) (md:Region.Mode) (ops:Array Oper) (Q:Exit->Act->World->Prop) (S:World->Prop) (k:Nat):Nat->Array Bool->Act->World->Prop
  | 0,l,a,w=>Region.ready md ops l = []/\Q .normal a w
  | n + 1, l, a, w => (Region.ready md ops l = [] → Q .normal a w) ∧
      ∀ i∈Region.ready md ops l,wpOp P ops Q i (fun b v=>(i≠k->S v)/\any P md ops Q S k n (l.setIfInBounds i true) b v) a w
theorem any_plain:∀ (n:Nat) (l:Array Bool) (a:Act) (w:World),any P md ops Q S k n l a w->wpAny P md ops Q n l a w:=by
  intro n
  induction n with
  | zero=>exact fun _ _ _ h=>h
  | succ n ih=>exact fun l a w h=>⟨h.1,fun i hi=>wpOp_mono (fun b v hb=>ih _ b v hb.2) (h.2 i hi)⟩
/-- Number k waits for number i. -/
def waits (md:Region.Mode) (ops:Array Oper) (k i:Nat):Bool:=((ops[k]?).map fun o=>o.after.any fun e=>Region.binds md e && e.on == i).getD false
theorem not_yet {i j:Nat} {l:Array Bool} (hw:waits md ops k i = true) (hi:i∈Region.ready md ops l) (hj:j∈Region.ready md ops l):j≠k:=by
  intro e
  subst e
  unfold waits at hw
  obtain ⟨_,o,ho,hall⟩:=mem_ready.1 hj
  rw [ho] at hw
  simp only [Option.map_some,Option.getD_some,Array.any_eq_true'] at hw
  obtain ⟨d,hd,hb⟩:=hw
  simp only [Bool.and_eq_true,beq_iff_eq] at hb
  have h1:=hall d hd hb.1
  have h0:=(mem_ready.1 hi).1
  rw [hb.2] at h1
  have e1:l.getD i true = l.getD i false:=by
    by_cases hlt:i < l.size
    · simp [hlt]
    · simp [Array.getElem?_eq_none (Nat.le_of_not_lt hlt)] at h1
  rw [e1,h1] at h0
  cases h0
theorem before {i : Nat} {oi : Oper} {v : Value} (hi : ops[i]? = some oi) (hsel : Region.noSelect ops = true) (hw : waits md ops k i = true)
    (hQ:∀ c a w,Q (.panic c) (a.put oi.dst v) w->Q (.panic c) a w) :
    ∀ (n : Nat) (l : Array Bool) (a : Act) (w : World),
      (∀ j oj,ops[j]? = some oj->j≠i->l.getD j true = false->(∀ e∈oj.after,Region.binds md e = true->e.on≠i)->oi.apart ops oj = true) ->
      i∈Region.ready md ops l->YieldsIf P ops S oi v a->S w->any P md ops Q S k n (l.setIfInBounds i true) (a.put oi.dst v) w->any P md ops Q S k (n + 1) l a w:=by
  intro n
  induction n with
  | zero =>
    intro l a w _ hr hy hS hH
    refine ⟨fun h=>absurd hr (by rw [h];simp),fun j hj=>?_⟩
    by_cases e:j = i
    · subst e;exact hy.wpOp hi hS ⟨fun _=>hS,hH⟩
    · exact absurd (ready_mono hj e) (by rw [hH.1];simp)
  | succ n ih =>
    intro l a w hfr hr hy hS hH
    refine ⟨fun h=>absurd hr (by rw [h];simp),fun j hj=>?_⟩
    by_cases e:j = i
    · subst e;exact hy.wpOp hi hS ⟨fun _=>hS,hH⟩
    · have hjk := not_yet hw hr hj
      obtain ⟨hun,oj,hoj,hall⟩:=mem_ready.1 hj
      have hno:∀ d∈oj.after,Region.binds md d = true->d.on≠i:=by
        intro d hd hb hdi
        have h1:=hall d hd hb
        have h0:=(mem_ready.1 hr).1
        rw [hdi] at h1
        by_cases hlt:i < l.size
        · simp [hlt] at h0 h1
          rw [h0] at h1
          cases h1
        · simp [Array.getElem?_eq_none (Nat.le_of_not_lt hlt)] at h1
      refine wpOp_mono (fun b u hb=>⟨fun _=>hb.2.1 hjk,?_⟩) (wpOp_putIf hoj (hfr j oj hoj e hun hno) (fun cs b=>Region.noSelect_spec hsel i oi cs b hi) (fun cs b=>Region.noSelect_spec hsel j oj cs b hoj) hQ hy (hH.2 j (ready_mono hj e)))
      refine ih (l.setIfInBounds j true) b u (fun q oq hq hqi hqu hqn=>hfr q oq hq hqi ?_ hqn) (ready_mono hr (Ne.symm e)) hb.1 (hb.2.1 hjk) ?_
      · by_cases hjq : j = q
        · subst hjq;exact hun
        · rw [getD_set_ne true hjq] at hqu;exact hqu
      · rw [Array.setIfInBounds_comm _ _ e]
        exact hb.2.2
/-- The post, of what does not panic. -/
def fine (Q:Exit->Act->World->Prop):Exit->Act->World->Prop:=fun e a w=>e = .normal/\Q .normal a w
/-- Take number i first. -/
theorem take (i:Nat) {oi:Oper} (v:Value) {n:Nat} {l:Array Bool} {a:Act} {w:World} (hi:ops[i]? = some oi) (hsel:Region.noSelect ops = true) (hw:waits md ops k i = true)
    (hf:Region.free md ops l i = true) (hr:(Region.ready md ops l).contains i = true)
    (hg:oi.guard = none) (hy:∀ w,S w->(execOp a.eval oi).run P w = .ok (.value v) w) (hS:S w) (h:any P md ops (fine Q) S k n (l.setIfInBounds i true) (a.put oi.dst v) w):any P md ops (fine Q) S k (n + 1) l a w :=
  before hi hsel hw (fun _ _ _ h=>by cases h.1) n l a w (Region.free_spec hi hf) (by simpa using hr) (.inl ⟨by simp [Region.wanted,hg],hy⟩) hS h
/-- One alone may come up. -/
theorem one (i:Nat) {oi:Oper} {n:Nat} {l:Array Bool} {a:Act} {w:World} (hi:ops[i]? = some oi) (hr:Region.ready md ops l = [i]) (hg:oi.guard = none)
    (h:oi.wp P a w (fun b v=>(i≠k->S v)/\any P md ops (fine Q) S k n (l.setIfInBounds i true) b v) (fine Q)):any P md ops (fine Q) S k (n + 1) l a w:=by
  refine ⟨fun h0=>absurd (hr.symm.trans h0) (by simp),fun j hj=>?_⟩
  rw [hr] at hj
  obtain rfl:j = i:=by simpa using hj
  unfold wpOp
  rw [hi]
  simp only [show Region.wanted oi (yielded ops a.tmps) = true by simp [Region.wanted,hg],if_true]
  exact .inl h
theorem done {l:Array Bool} {a:Act} {w:World} (hr:Region.ready md ops l = []) (h:Q .normal a w):any P md ops (fine Q) S k 0 l a w:=⟨hr,rfl,h⟩
theorem start {id:Nat} {a:Act} {w:World} (S:World->Prop) (k:Nat) (hm:P.follows .mixedOrders = true) (h:any P .any ops (fine Q) S k ops.size (Array.replicate ops.size false) a w.drew):(Code.region id ops true).wp P Q a w :=
  wp_mono (wp_region_any hm (any_plain _ _ _ _ h)) (fun e a w hq=>by obtain ⟨rfl,h⟩:=hq;exact h)
end Late
end Go.Proofs.YtggoccfddnpelaaGreat.Ks.Rs
