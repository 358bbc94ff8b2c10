import Derived.Test.YtmjekklgefdolaaGreatDoorWr13
namespace Go.Proofs.YtmjekklgefdolaaGreatDoor
open Go.RowKit
structure HSt (T:Tags) (w0:World) (hb:Nat) (vs vb:Value) (ss bs:List ByteArray) (w:World):Prop where
 hw:At T w (1,0) hb 155 [vs,vb,.string ⟨#[]⟩]
 rs:RowT T w (2,0) 9 1 vs ss.length (strV ss)
 rq:RowT T w (2,1) 9 1 vb bs.length (strV bs)
 old:∀ g,g<w0.heap.size→T g=(0,0)
 bel:Below w0.heap.size w0 w
section
variable {T:Tags} {w0 w w':World} {hb:Nat} {vs vb:Value} {ss bs:List ByteArray}
theorem HSt.below (h:HSt T w0 hb vs vb ss bs w) (hbe:Below w.heap.size w w'):HSt (fresh T w (9,9)) w0 hb vs vb ss bs w':=by
 have hs:Stays T (fresh T w (9,9)) w w' (fun _=>False):=Stays.of_below (9,9) hbe
 exact ⟨h.hw.stays hs id,h.rs.stays hs id,h.rq.stays hs id,fun g hg=>(hs.tag g (Nat.lt_of_lt_of_le hg h.bel.size)).trans (h.old g hg),h.bel.trans (hbe.mono h.bel.size)⟩
theorem HSt.addS (h:HSt T w0 hb vs vb ss bs w) (y:ByteArray) {o:Obj} {v':Value} {w1:World} (hg:(w.alloc o).grownBy w1 vs.ownBlock) (hr:Row w1 0 9 1 v' (ss.length+1) (strV ss++[.string y])) (hat:v'.ownBlock=vs.ownBlock∨∃ g,v'.ownBlock=some g∧(w.alloc o).heap.size≤g):
  HSt (fresh T w (2,0)) w0 hb v' vb (ss++[y]) bs (w1.setCell ⟨hb,0,none⟩ v'):=by
 obtain ⟨q1,q2,q3⟩:=append_field (f:=0) h.hw h.rs (by decide) hg hr hat
 exact ⟨q2,by simpa [strV] using q3,h.rq.stays q1 (by simp),fun g hg=>(q1.tag g (Nat.lt_of_lt_of_le hg h.bel.size)).trans (h.old g hg),h.bel.trans (q1.below h.bel.size h.old (by simp))⟩
theorem HSt.addB (h:HSt T w0 hb vs vb ss bs w) (y:ByteArray) {o:Obj} {v':Value} {w1:World} (hg:(w.alloc o).grownBy w1 vb.ownBlock) (hr:Row w1 0 9 1 v' (bs.length+1) (strV (bs++[y]))) (hat:v'.ownBlock=vb.ownBlock∨∃ g,v'.ownBlock=some g∧(w.alloc o).heap.size≤g):
  HSt (fresh T w (2,1)) w0 hb vs v' ss (bs++[y]) (w1.setCell ⟨hb,1,none⟩ v'):=by
 obtain ⟨q1,q2,q3⟩:=append_field (f:=1) h.hw h.rq (by decide) hg hr hat
 exact ⟨q2,h.rs.stays q1 (by simp),by simpa using q3,fun g hg=>(q1.tag g (Nat.lt_of_lt_of_le hg h.bel.size)).trans (h.old g hg),h.bel.trans (q1.below h.bel.size h.old (by simp))⟩
theorem HSt.drew (h:HSt T w0 hb vs vb ss bs w):HSt T w0 hb vs vb ss bs w.drew:=by
 have hs:Stays T T w (w.drewN 1) (fun _=>False):=(Stays.refl T w _).drewN 1
 exact ⟨h.hw.stays hs id,h.rs.stays hs id,h.rq.stays hs id,h.old,below_drewN h.bel 1⟩
end
theorem take_one {l:List ByteArray} {k:Nat} (h:k<l.length):l.take (k+1)=l.take k++[l.getD k ⟨#[]⟩]:=by
 rw[List.take_succ_eq_append_getElem h,List.getD_eq_getElem?_getD,List.getElem?_eq_getElem h]
 rfl
set_option maxRecDepth 100000 in
set_option maxHeartbeats 3200000 in
theorem refHeader_any (v1 v2:Value) (l ss:List ByteArray) (key:ByteArray) (w:World) (h1:Strs w v1 l) (h2:Strs w v2 ss) (hn0:l.length≠0) (hn3:¬ 3<l.length) (hs:ss.length=l.length)
  (hm:∀ i,i<l.length→(l.getD i ⟨#[]⟩).size=32) (hz:∀ i,i<l.length→(ss.getD i ⟨#[]⟩).size=16) (hk:key.size=16):
  Calls Tryz.prog 188 #[v1,v2,.string key] w fun e w'=>e = .returned (.string ⟨(Ref.header l ss key.data.toList).toArray⟩)∧Below w.heap.size w w':=by
 have HOK:=hide (fun m hm=>Ref.okHead (key:=key.data.toList) hn0 hn3 hs hz (by rw[ba_len,hk]) m hm)
 obtain ⟨ao,cp,rfl⟩:=h1.len
 obtain ⟨bo,dp,rfl⟩:=h2.len
 have HS1:=hide h1
 have HS2:=hide h2
 have HHS:=hide hs
 rw[hs]
 obtain ⟨n,hn⟩:∃ n:Nat,l.length=n:=⟨_,rfl⟩
 have HNN:=hide hn
 rw[hn] at hn0 hn3 hm hz ⊢
 have HM:=hide hm
 have HZ:=hide hz
 have hb0:Below w.heap.size w (w.alloc (.cells #[.slice none 0 0,.slice none 0 0,.string ⟨#[]⟩] 155)):=(Below.refl _ _).alloc (Nat.le_refl _) _
 have H0:=hide (show HSt (fun g=>if g<w.heap.size then (0,0) else (1,0)) w w.heap.size (.slice none 0 0) (.slice none 0 0) [] [] (w.alloc (.cells #[.slice none 0 0,.slice none 0 0,.string ⟨#[]⟩] 155)) from
  ⟨⟨Blk.new rfl rfl,if_neg (Nat.lt_irrefl _)⟩,RowT.nil _ _ _ _ _,RowT.nil _ _ _ _ _,fun g hg=>if_pos hg,hb0⟩)
 obtain ⟨hb,hhb⟩:∃ hb,w.heap.size=hb:=⟨_,rfl⟩
 rw[hhb] at H0
 have HHB:=hide hhb
 generalize hPP:(fun (e:Ending) (w':World)=>e = .returned (.string ⟨(Ref.header l ss key.data.toList).toArray⟩)∧Below w.heap.size w w')=PP
 clear h1 h2 hs hn hm hz hb0
 go_enter Tryz.func188,Tryz.ntmps188
 go_wp2
 go_loopw [8] (fun vi wr=>∃ (k:Nat) (T:Tags) (vs vb:Value),k≤n∧vi = .int .i64 (k:Nat)∧HSt T w hb vs vb (ss.take k) (Ref.bodsL l ss key.data.toList k) wr) (fun i _=>n-(intOf i).toNat)
 case atStart=>exact ⟨0,_,_,_,Nat.zero_le _,rfl,H0.out⟩
 case round=>
  clear H0
  obtain ⟨k,T,vs,vb,hkn,rfl,hst⟩:=hrel
  have HST:=hide hst
  have hbe:=hst.bel
  have hsz:=hbe.size
  have htl:(ss.take k).length=k:=by rw[List.length_take,HHS.out,HNN.out];omega
  have hbl:(Ref.bodsL l ss key.data.toList k).length=k:=Ref.bodsL_len _ _ _ _
  have c0:=hst.hw.1.cell (i:=0) rfl
  have c1:=hst.hw.1.cell (i:=1) rfl
  have hhl:=hst.hw.1.lt
  by_cases hlt:k<n
  ·have jk:(k:Int)<(n:Int):=by omega
   obtain ⟨g,o,c,hv1,hgl,e1⟩:=HS1.out.at k (by rw[HNN.out];exact hlt)
   injection hv1 with hv1 _ hv1c
   subst hv1
   subst hv1c
   obtain ⟨g2,o2,c2,hv2,hgl2,e2⟩:=HS2.out.at k (by rw[HHS.out,HNN.out];exact hlt)
   injection hv2 with hv2 _ hv2c
   subst hv2
   subst hv2c
   have f1:=(hbe.cell hgl).trans e1
   have f2:=(hbe.cell hgl2).trans e2
   have HF2:=hide (fun (w':World) (h:Below w.heap.size w w')=>(h.cell hgl2).trans e2)
   have z1:=HM.out k hlt
   have z2:=HZ.out k hlt
   have hnx:=Ref.bodsL_succ l ss key.data.toList k
   have hnt:=take_one (l:=ss) (k:=k) (by rw[HHS.out,HNN.out];exact hlt)
   unfold Hd.at_ at hnx
   generalize l.getD k ⟨#[]⟩=mk at *
   generalize ss.getD k ⟨#[]⟩=sk at *
   have HK:=hide (fun w'=>refKey_any mk sk ⟨#[119,114,97,112]⟩ w' (by omega) (by omega) (by decide))
   rw[show (expO (macL sk.data.toList mk.data.toList) (⟨#[119,114,97,112]⟩:ByteArray).data.toList 1).take 32=Ref.keyL mk.data.toList sk.data.toList Ref.inWrap from rfl] at HK
   have hkz:(⟨(Ref.keyL mk.data.toList sk.data.toList Ref.inWrap).toArray⟩:ByteArray).size=32:=by rw[two_size,Ref.keyL_len]
   have HSE:Hid (∀ w,Calls Tryz.prog 54 #[.string ⟨(Ref.keyL mk.data.toList sk.data.toList Ref.inWrap).toArray⟩,.string ⟨#[0,0,0,0,0,0,0,0,0,0,0,0]⟩,.string ⟨#[]⟩,.string key] w fun e w'=>e = .returned (.tuple #[.string ⟨(Ref.wrapL mk.data.toList sk.data.toList key.data.toList).toArray⟩,.int .i64 0])∧Below w.heap.size w w'):=hide (fun w=>by
    have h:=boxSeal_any ⟨(Ref.keyL mk.data.toList sk.data.toList Ref.inWrap).toArray⟩ ⟨(nought 12).toArray⟩ ⟨#[]⟩ key w hkz rfl (by decide) (by omega)
    rw[two_toList,two_toList] at h
    exact h)
   generalize Ref.wrapL mk.data.toList sk.data.toList key.data.toList=WL at *
   generalize (⟨(Ref.keyL mk.data.toList sk.data.toList Ref.inWrap).toArray⟩:ByteArray)=WK at *
   have HNX:=hide hnx
   have HNT:=hide hnt
   have HLT:=hide hlt
   have hgw:g<wr.heap.size:=Nat.lt_of_lt_of_le hgl hsz
   have hgw2:g2<wr.heap.size:=Nat.lt_of_lt_of_le hgl2 hsz
   clear hst hbe e1 e2 z1 z2 hnx hnt hlt hgl hgl2 hkn hkz
   go_wp2
   go_region_held3 (fun w'=>w'.cell? ⟨g,o+k,none⟩=some (.string mk)∧w'.cell? ⟨g2,o2+k,none⟩=some (.string sk)) (refine ⟨?_,?_⟩ <;> first | assumption | (exact (hb2.cell hgw).trans (by assumption)) | (exact (hb2.cell hgw2).trans (by assumption))) ((go_at_call 23;refine (HK.out _).mono ?_;rintro e w2 ⟨rfl,hb2⟩))
   rename_i hH
   clear hH
   have hbd:Below wr.heap.size wr w2:=(show Below wr.heap.size wr wr.drew from ⟨rfl,rfl,rfl,Nat.le_refl _,fun _ _=>rfl⟩).trans hb2
   have HST2:=hide (HST.out.below hbd)
   clear hb2 hbd HK f1 f2 c0 c1 HST
   go_wp2_with fail
   refine (HSE.out _).mono ?_
   rintro e w3 ⟨rfl,hb3⟩
   have hst3:=HST2.out.below hb3
   generalize fresh (fresh T wr (9,9)) w2 (9,9)=T3 at *
   have f2:=HF2.out _ hst3.bel
   have c0:=hst3.hw.1.cell (i:=0) rfl
   have key0:=fun (w1:World) (o:Obj) (hg:(w3.drew.alloc o).grownBy w1 vs.ownBlock)=>(hst3.drew.hw.1.alloc o).grown hg (fun e=>absurd (hst3.rs.2 hb e.symm) (by rw[hst3.hw.2];decide))
   have HK:=hide key0
   have hrow:=hst3.rs.1
   rw[htl] at hrow
   have HROW:=hide hrow
   have HST3:=hide hst3
   have HTL:=hide htl
   have HBL:=hide hbl
   have f2a:(w3.alloc (.cells #[.string sk] 9)).cell? ⟨g2,o2+k,none⟩=some (.string sk):=World.cell?_alloc_later w3 _ _ f2
   have c0a:(w3.alloc (.cells #[.string sk] 9)).cell? ⟨hb,0,none⟩=some vs:=World.cell?_alloc_later w3 _ _ c0
   clear key0 hst3 hb3 HSE HST2 hrow hbl
   go_wp2
   go_region_law (refine step_append_n 9 41 _ 1 16 (by decide) infoStr Tryz.underlying41 rfl (by decide) rfl (.tmp 37) (.tmp 42) rfl _ k _ rfl (HROW.out.drew.alloc _) w3.heap.size [.string sk] rfl rfl ?_ new_at ?_ ?_;(intro u hu;simp at hu;subst hu;rfl);omega;intro v1 w5 hr1 hg1 hat1;obtain ⟨g9,cap9,cur9,rfl,_⟩:=hr1.open (Nat.succ_pos _);have b1:=HK.out w5 _ hg1;have d0:=b1.cell (i:=0) rfl;have d1:=b1.cell (i:=1) rfl;have f1:=b1.frozen)
   all_goals
    go_wp2_with (at_builtin;refine Hid.out ?_)
    refine hide ?_
    have P5:=hide (HST3.out.drew.addS sk hg1 (by rw[HTL.out];exact hr1) hat1)
    have hsz6:(w5.setCell ⟨hb,0,none⟩ (.slice (some ⟨g9,0,none⟩) (k+1) cap9)).heap.size=w5.heap.size:=by
     show (w5.heap.modify _ _).size=_
     simp
    generalize w5.setCell ⟨hb,0,none⟩ (.slice (some ⟨g9,0,none⟩) (k+1) cap9)=w6 at *
    generalize fresh T3 w3.drew (2,0)=T6 at *
    clear HST3 HK c0 c0a f2 f2a d0 d1 f1 b1 hg1 hr1 hat1 HROW
    rw[←hsz6]
    clear hsz6
    have key1:=fun (w1:World) (o:Obj) (hg:(w6.alloc o).grownBy w1 vb.ownBlock)=>(P5.out.hw.1.alloc o).grown hg (fun e=>absurd (P5.out.rq.2 hb e.symm) (by rw[P5.out.hw.2];decide))
    have HK:=hide key1
    have hrow:=P5.out.rq.1
    rw[HBL.out] at hrow
    have HROW:=hide hrow
    clear key1 hrow
    go_wp2_with (at_builtin;refine wpList_append_strB rfl (.tmp 46) (.tmp 48) rfl 0 _ k (Ref.bodsL l ss key.data.toList k) rfl (HROW.out.alloc _) w6.heap.size _ rfl (World.cell?_alloc_at _ _ _ _ rfl) ?_ ?_ ?_;omega;exact Nat.zero_le _;intro v7 w7 hr7 hg7 hat7;obtain ⟨g8,cap8,cur8,rfl,_⟩:=hr7.open (Nat.succ_pos _);have b1:=HK.out w7 _ hg7;have d1:=b1.cell (i:=1) rfl;have f1:=b1.frozen)
    go_roundw
    case rel=>
     have h7:=P5.out.addB ⟨WL.toArray⟩ hg7 (by rw[HBL.out];exact hr7) hat7
     rw[←HNT.out,←HNX.out] at h7
     exact ⟨k+1,_,_,_,HLT.out,by go_num,h7⟩
    case measure=>have:=HLT.out;simp[intOf];omega
  ·obtain rfl:k=n:=by omega
   have jk:¬ (k:Int)<(k:Int):=by omega
   have hts:ss.take k=ss:=List.take_of_length_le (by rw[HHS.out,HNN.out];exact Nat.le_refl _)
   have hsl:ss.length=k:=by rw[HHS.out,HNN.out]
   have HO2:=HOK.out (Ref.macB l ss key.data.toList) (Ref.macB_size _ _ _)
   have hmb:Ref.macB l ss key.data.toList=⟨(Ref.macH key.data.toList ss (Ref.bodsL l ss key.data.toList l.length)).toArray⟩:=rfl
   have HHD:=hide (show Ref.header l ss key.data.toList=Hd.text ss (Ref.bodsL l ss key.data.toList l.length) (Ref.macB l ss key.data.toList) from rfl)
   rw[hts,show Ref.bodsL l ss key.data.toList k=Ref.bodsL l ss key.data.toList l.length by rw[HNN.out]] at hst
   rw[show Ref.bodsL l ss key.data.toList k=Ref.bodsL l ss key.data.toList l.length by rw[HNN.out]] at hbl
   have HP2:=hide (fun v1 v2 w' (h1:Strs w' v1 ss) (h2:Strs w' v2 (Ref.bodsL l ss key.data.toList l.length))=>headPrint_any v1 v2 (Ref.macB l ss key.data.toList) ss (Ref.bodsL l ss key.data.toList l.length) w' h1 h2 (by omega) (by omega))
   rw[Hd.prAns_ok HO2,←HHD.out] at HP2
   have hz1:∀ x ∈ ss,x.size≤1000:=fun x hx=>by
    obtain ⟨i,hi,rfl⟩:=List.getElem_of_mem hx
    have:=HO2.hs i hi
    rw[List.getD_eq_getElem?_getD,List.getElem?_eq_getElem hi] at this
    exact Nat.le_trans (Nat.le_of_eq this) (by decide)
   have hz2:∀ x ∈ Ref.bodsL l ss key.data.toList l.length,x.size≤1000:=fun x hx=>by
    obtain ⟨i,hi,rfl⟩:=List.getElem_of_mem hx
    have:=HO2.hb i (by rw[←HO2.nb];exact hi)
    rw[List.getD_eq_getElem?_getD,List.getElem?_eq_getElem hi] at this
    exact Nat.le_trans (Nat.le_of_eq this) (by decide)
   have HMA:=hide (refMac_any key hb vs vb ⟨#[]⟩ ss (Ref.bodsL l ss key.data.toList l.length) wr hst.hw.1 (Row.strs hst.rs.1) (Row.strs hst.rq.1) HO2.nb (by omega) hz1 hz2 (by omega))
   rw[←hmb] at HMA
   have HST:=hide hst
   obtain ⟨ob,cb,hvs,_⟩:=Row.anyN hst.rs.1
   obtain ⟨od,cd,hvb,_⟩:=Row.anyN hst.rq.1
   rw[hsl] at hvs
   rw[hbl] at hvb
   clear hsl hbl
   generalize Ref.macB l ss key.data.toList=MB at *
   generalize Ref.bodsL l ss key.data.toList l.length=BS at *
   generalize hHDR:Ref.header l ss key.data.toList=HDR at *
   clear hst hmb HO2 hz1 hz2 hts hlt hkn HOK HS1 HS2 HM HZ c0 c1 hbe htl
   go_wp2_with fail
   refine HMA.out.mono ?_
   rintro e w5 ⟨rfl,hb5⟩
   have hst5:=HST.out.below hb5
   have hB5:=hst5.hw.1
   have c0:=hB5.cell (i:=0) rfl
   have c1:=hB5.cell (i:=1) rfl
   have c2:=hB5.cell (i:=2) rfl
   have f5:=hB5.frozen
   have hG6:=(World.grownBy.refl w5 (some hb)).setCell 2 (.string MB)
   have hB6:=hB5.setCell_same 2 (.string MB)
   have st6:Stays (fresh T wr (9,9)) (fresh T wr (9,9)) w5 (w5.setCell ⟨hb,2,none⟩ (.string MB)) (fun c=>c=(1,0)):=Stays.setCell w5 hb _ _ hst5.hw.2
   have B6:=hide (hst5.bel.trans (st6.below hst5.bel.size hst5.old (by simp)))
   have HPR2:=hide (HP2.out _ _ _ (Row.strs (hst5.rs.stays st6 (by simp)).1) (Row.strs (hst5.rq.stays st6 (by simp)).1))
   have d0:=hB6.cell (i:=0) rfl
   have d1:=hB6.cell (i:=1) rfl
   have d2:=hB6.cell (i:=2) rfl
   clear hG6 hB6 hst5 hB5 st6 HST HMA hb5 HP2
   subst hvs
   subst hvb
   go_wp2_with fail
   refine HPR2.out.mono ?_
   rintro e w7 ⟨rfl,hb7⟩
   have B7:=hide (B6.out.trans (hb7.mono B6.out.size))
   clear hb7 HPR2 B6
   go_wp2
   rw[←hPP]
   exact ⟨rfl,B7.out⟩
def NewWM (l:List ByteArray) (b:Nat) (s:ByteArray) (p:Nat) (sk g:Nat) (k:Snk) (w:World) (e:Ending) (w':World):Prop:=∃ pv,
 e = .returned (.tuple #[pv,.int .i64 (Ref.newE l s p k)])∧(Ref.newE l s p k≠0→pv = .pointer none) ∧
  (Ref.newE l s p k=0→∃ wb,w.heap.size≤wb∧pv = .pointer (some ⟨wb,0,none⟩)∧Blk w' wb 204 [.pointer (some ⟨sk,0,none⟩),.string (Ref.pkey l s p),.string ⟨#[]⟩,.int .i64 0,.int .i64 0]) ∧
  Blk w' sk 173 ((Ref.newK l s p k).cells g)∧Blk w' b 171 (springCells s (Ref.beginP l s p))∧Chg (fun x=>x=b∨x=sk) w w'
theorem chkM_two {l:List ByteArray} (h:l.length=0∨3<l.length):Ref.chkM l=2:=by unfold Ref.chkM;rw[if_pos h]
theorem chkM_one {l:List ByteArray} (h:¬ (l.length=0∨3<l.length)) {i:Nat} (hi:i<l.length) (hz:(l.getD i ⟨#[]⟩).size≠32):Ref.chkM l=1:=by unfold Ref.chkM;rw[if_neg h,if_pos ⟨i,hi,hz⟩]
theorem chkM_zero {l:List ByteArray} (h:¬ (l.length=0∨3<l.length)) (hz:∀ i,i<l.length→(l.getD i ⟨#[]⟩).size=32):Ref.chkM l=0:=by
 unfold Ref.chkM
 rw[if_neg h,if_neg]
 rintro ⟨i,hi,q⟩
 exact q (hz i hi)
theorem new_chk {l:List ByteArray} {s:ByteArray} {p:Nat} {k:Snk} (h:Ref.chkM l≠0):Ref.newE l s p k=Ref.chkM l∧Ref.newK l s p k=k∧Ref.beginP l s p=p:=by
 have e:Ref.beginE l s p=Ref.chkM l:=if_pos h
 unfold Ref.newE Ref.newK Ref.beginP
 rw[e,if_pos h,if_pos h,if_pos h]
 exact ⟨rfl,rfl,rfl⟩
theorem new_dry {l:List ByteArray} {s:ByteArray} {p:Nat} {k:Snk} (h:Ref.chkM l=0) (hz:¬ p+16*(l.length+2)≤s.size):Ref.newE l s p k=15∧Ref.newK l s p k=k∧Ref.beginP l s p=p+16*canDraw s p (l.length+2):=by
 have e:Ref.beginE l s p=15:=by unfold Ref.beginE;rw[if_neg (fun q=>q h),if_neg hz]
 unfold Ref.newE Ref.newK Ref.beginP
 rw[e,if_pos (by decide),if_pos (by decide),if_neg (fun q=>q h)]
 exact ⟨rfl,rfl,rfl⟩
theorem new_good' {l:List ByteArray} {s:ByteArray} {p:Nat} {k:Snk} (h:Ref.chkM l=0) (hz:p+16*(l.length+2)≤s.size):Ref.beginE l s p=0∧Ref.newE l s p k=(if k.ok (Ref.head l s p)=false then 16 else (k.put (Ref.head l s p)).err (Ref.pdraw l s p))∧Ref.newK l s p k=(if k.ok (Ref.head l s p)=false then k.put (Ref.head l s p) else (k.put (Ref.head l s p)).put (Ref.pdraw l s p))∧Ref.beginP l s p=p+16*(l.length+2):=by
 have e:Ref.beginE l s p=0:=by unfold Ref.beginE;rw[if_neg (fun q=>q h),if_pos hz]
 refine ⟨e,?_,?_,?_⟩
 ·unfold Ref.newE;rw[e,if_neg (fun q:(0:Int)≠0=>q rfl)]
 ·unfold Ref.newK;rw[e,if_neg (fun q:(0:Int)≠0=>q rfl)]
 ·unfold Ref.beginP;rw[if_neg (fun q=>q h)];unfold canDraw;omega
theorem cuts_at {s:ByteArray} {p n i:Nat} (h:i<n):(cuts s p n)[i]? = some (s.extract (p+16*i) (p+16*i+16)):=by
 unfold cuts
 rw[List.getElem?_map,List.getElem?_range h]
 rfl
theorem draws_open {w:World} {B0:Nat} {v:Value} {n:Nat} {s:ByteArray} {p:Nat} (h:Row w B0 9 1 v (n+2) (strV (cuts s p (n+2)))):
  ∃ g c,v = .slice (some ⟨g,0,none⟩) (n+2) c∧n+2≤c∧c≤9223372036854775807∧B0≤g∧g<w.heap.size∧∀ w',w'.heap[g]? = w.heap[g]?→(∀ d,Strs w' (.slice (some ⟨g,0,none⟩) n d) (cuts s p n))∧w'.cell? ⟨g,n,none⟩=some (.string (s.extract (p+16*n) (p+16*n+16)))∧w'.cell? ⟨g,n+1,none⟩=some (.string (s.extract (p+16*(n+1)) (p+16*(n+1)+16))):=by
 obtain ⟨g,cap,cur,rfl,hb0,hB,hc,hm,_,htk⟩:=h.open (Nat.succ_pos _)
 refine ⟨g,cap,rfl,hc,hm,hb0,hB.lt,fun w' hw=>?_⟩
 have cell:∀ i,i<n+2→w'.cell? ⟨g,i,none⟩=some (.string (s.extract (p+16*i) (p+16*i+16))):=fun i hi=>by
  have h1:w.cell? ⟨g,i,none⟩=some (.string (s.extract (p+16*i) (p+16*i+16))):=hB.cell (take_at htk (by unfold strV;rw[List.getElem?_map,cuts_at hi];rfl))
  unfold World.cell? at h1 ⊢
  rw[hw]
  exact h1
 refine ⟨fun d=>.inr ⟨g,0,d,by rw[cuts_len],fun i x hx=>?_⟩,cell n (by omega),cell (n+1) (by omega)⟩
 have hi:i<n:=by have:=(List.getElem?_eq_some_iff.1 hx).1;rw[cuts_len] at this;exact this
 rw[cuts_at hi] at hx
 obtain rfl:=Option.some.inj hx
 rw[Nat.zero_add]
 exact cell i (by omega)
set_option maxRecDepth 100000 in
set_option maxHeartbeats 6400000 in
theorem refNewWriter_any (v:Value) (l:List ByteArray) (b:Nat) (s:ByteArray) (p sk g:Nat) (k:Snk) (w:World) (hv:Strs w v l) (hvb:∀ g o n c,v = .slice (some ⟨g,o,none⟩) n c→0<l.length→g≠b) (hl:l.length≤1099511627776)
  (hb:Blk w b 171 (springCells s p)) (hp:p≤s.size) (hs:s.size<1125899906842624)
  (hk:Blk w sk 173 (k.cells g)) (hg:Blk w g 3 (intV k.plan)) (hbk:b≠sk) (hbg:b≠g) (hgk:g≠sk) (hks:k.got.size+3000<1125899906842624) (hkp:k.pos+10<1125899906842624):
  Calls Tryz.prog 138 #[v,.pointer (some ⟨b,0,none⟩),.pointer (some ⟨sk,0,none⟩)] w (NewWM l b s p sk g k w):=by
 generalize hPP:NewWM l b s p sk g k w=PP
 obtain ⟨ao,cp,rfl⟩:=hv.len
 have HV:=hide hv
 have HVB:=hide hvb
 have HBS:=hide hb
 have HKS:=hide (And.intro hk hg)
 have hbl:=hb.lt
 obtain ⟨n,hn⟩:∃ n:Nat,l.length=n:=⟨_,rfl⟩
 have HN:=hide hn
 rw[hn] at hl ⊢
 clear hv hb hk hg hvb
 by_cases h03:n=0∨3<n
 ·have hc:=chkM_two (l:=l) (by rw[hn];exact h03)
  obtain ⟨q1,q2,q3⟩:=new_chk (l:=l) (s:=s) (p:=p) (k:=k) (by rw[hc];decide)
  rw[hc] at q1
  have HQ:=hide (And.intro q1 (And.intro q2 q3))
  clear hn hc q1 q2 q3
  rcases h03 with rfl | h3
  ·go_enter Tryz.func138,Tryz.ntmps138
   go_wp2
   rw[←hPP]
   obtain ⟨q1,q2,q3⟩:=HQ.out
   exact ⟨_,by first | (rw[q1];rfl) | rw[q1],fun _=>rfl,fun h=>absurd (q1.symm.trans h) (by decide),by rw[q2];exact HKS.out.1,by rw[q3];exact HBS.out,Chg.refl _ _⟩
  ·have z0:((n:Int)==0)=false:=beq_eq_false_iff_ne.2 (by omega)
   have j3:(3:Int)<(n:Int):=by omega
   go_enter Tryz.func138,Tryz.ntmps138
   go_wp2
   rw[←hPP]
   obtain ⟨q1,q2,q3⟩:=HQ.out
   exact ⟨_,by first | (rw[q1];rfl) | rw[q1],fun _=>rfl,fun h=>absurd (q1.symm.trans h) (by decide),by rw[q2];exact HKS.out.1,by rw[q3];exact HBS.out,Chg.refl _ _⟩
 ·have hn0:n≠0:=fun e=>h03 (.inl e)
  have hn3:¬ 3<n:=fun e=>h03 (.inr e)
  have z0:((n:Int)==0)=false:=beq_eq_false_iff_ne.2 (by omega)
  have j3:¬ (3:Int)<(n:Int):=by omega
  have H03:=hide (show ¬ (l.length=0∨3<l.length) by rw[hn];exact h03)
  clear hn h03
  go_enter Tryz.func138,Tryz.ntmps138
  go_wp2
  go_loopw [8] (fun vi wr=>∃ i:Nat,i≤n∧vi = .int .i64 (i:Nat)∧w=wr∧∀ j,j<i→(l.getD j ⟨#[]⟩).size=32) (fun vi _=>n-(intOf vi).toNat)
  case atStart=>exact ⟨0,Nat.zero_le _,rfl,rfl,fun j hj=>absurd hj (Nat.not_lt_zero _)⟩
  case round=>
   obtain ⟨i,hi,rfl,rfl,hall⟩:=hrel
   by_cases hlt:i<n
   ·have ji:(i:Int)<(n:Int):=by omega
    obtain ⟨g1,o1,c1,hv1,_,e1⟩:=HV.out.at i (by rw[HN.out];exact hlt)
    injection hv1 with hv1 _ hv1c
    subst hv1
    subst hv1c
    have HALL:=hide hall
    have HLT:=hide hlt
    obtain ⟨mi,hmi⟩:∃ m,l.getD i ⟨#[]⟩=m:=⟨_,rfl⟩
    have HMI:=hide hmi
    rw[hmi] at e1
    clear hmi hall hi hlt
    by_cases h32:mi.size=32
    ·have jz:((mi.size:Int) != 32)=false:=by simp only[bne,beq_iff_eq.2 (show (mi.size:Int)=32 by omega)];rfl
     have H32:=hide h32
     clear h32
     go_wp2
     go_roundw
     case rel=>exact ⟨i+1,HLT.out,by go_num,by first | rfl | trivial,fun j hj=>by
      rcases Nat.eq_or_lt_of_le (Nat.le_of_lt_succ hj) with e | e
      ·rw[e,HMI.out];exact H32.out
      ·exact HALL.out j e⟩
     case measure=>have:=HLT.out;simp[intOf];omega
    ·have jz:((mi.size:Int) != 32)=true:=by rw[bne_iff_ne];omega
     have hc:=chkM_one H03.out (i:=i) (by rw[HN.out];exact HLT.out) (by rw[HMI.out];exact h32)
     obtain ⟨q1,q2,q3⟩:=new_chk (l:=l) (s:=s) (p:=p) (k:=k) (by rw[hc];decide)
     rw[hc] at q1
     have HQ:=hide (And.intro q1 (And.intro q2 q3))
     clear hc q1 q2 q3 h32
     go_wp2
     rw[←hPP]
     obtain ⟨q1,q2,q3⟩:=HQ.out
     exact ⟨_,by first | (rw[q1];rfl) | rw[q1],fun _=>rfl,fun h=>absurd (q1.symm.trans h) (by decide),by rw[q2];exact HKS.out.1,by rw[q3];exact HBS.out,Chg.refl _ _⟩
   ·obtain rfl:i=n:=by omega
    have ji:¬ (i:Int)<(i:Int):=by omega
    have HC0:=hide (chkM_zero H03.out (by rw[HN.out];exact hall))
    have HALL:=hide hall
    clear hlt hi hall
    obtain ⟨n2,hn2⟩:∃ n2:Nat,i+2=n2:=⟨_,rfl⟩
    have tn2:(i:Int)+2=(n2:Int):=by omega
    have hn2b:n2≤5:=by omega
    have HN2:=hide hn2
    clear hn2
    go_wp2
    go_loopw [9,10] (fun vd vi wr=>∃ q:Nat,q≤n2∧vi = .int .i64 (q:Nat)∧p+16*q≤s.size∧Row wr w.heap.size 9 1 vd q (strV (cuts s p q))∧Blk wr b 171 (springCells s (p+16*q))∧w.grownBy wr (some b)) (fun _ vi _=>n2-(intOf vi).toNat)
    case atStart=>exact ⟨0,Nat.zero_le _,rfl,hp,Row.nil _ _ _ _,HBS.out,World.grownBy.refl _ _⟩
    case round=>
     obtain ⟨q,hq,rfl,hpq,hr,hB,hG⟩:=hrel
     have hsz:=hG.size
     obtain ⟨r,hr0⟩:∃ r:Nat,p+16*q=r:=⟨_,rfl⟩
     rw[hr0] at hB hpq
     by_cases hlt:q<n2
     ·have jq:(q:Int)<(n2:Int):=by omega
      by_cases hgd:r+16≤s.size
      ·have HD:=hide (fun (w':World) (h:Blk w' b 171 (springCells s r))=>draw_good b s r w' h hs hgd)
       have HX:=hide (show cuts s p (q+1)=cuts s p q++[s.extract r (r+16)] by rw[cuts_succ,hr0])
       have HQ:=hide hr0
       have HR:=hide hr
       have HB:=hide hB
       have HG:=hide hG
       have HLT:=hide hlt
       have HGD:=hide hgd
       obtain ⟨ao2,cap2,rfl,hd1,hd2⟩:=Row.anyN hr
       unfold maxLen at hd2
       clear hr hB hG hr0 hlt hgd
       generalize s.extract r (r+16)=sx at *
       go_wp2_with fail
       refine (HD.out _ HB.out).mono ?_
       rintro e w2 ⟨rfl,hB2,hG2⟩
       have hne:(Value.slice ao2 q cap2).ownBlock=none∨(Value.slice ao2 q cap2).ownBlock≠some b:=by
        cases hv:(Value.slice ao2 q cap2).ownBlock with
        | none=>exact .inl rfl
        | some g=>
         refine .inr fun e=>?_
         injection e with e
         have:=(HR.out.lt g hv).1
         omega
       have HR2:=hide (HR.out.kept hG2 hne)
       have HG2:=hide (grown_trans HG.out hG2 (fun k hk=>.inr (by injection hk with hk;exact hk.symm)))
       have HB2:=hide hB2
       have hsz2:=HG2.out.size
       clear hB2 hG2 hne HR HG HB HD
       go_wp2_with (at_builtin;refine wpList_append_strB rfl (.tmp 53) (.tmp 55) rfl w.heap.size _ q _ rfl (HR2.out.alloc _) w2.heap.size _ rfl (World.cell?_alloc_at _ _ _ _ rfl) ?_ ?_ ?_;omega;(simp;omega);intro v3 w3 hr3 hg3 hat3)
       have hown:∀ g,(Value.slice ao2 q cap2).ownBlock=some g→w.heap.size≤g:=fun g hg=>(HR2.out.lt g hg).1
       go_roundw
       case rel=>
        have:=HLT.out
        have:=HGD.out
        have hq:=HQ.out
        refine ⟨q+1,by omega,by go_num,by omega,?_,?_,?_⟩
        ·rw[HX.out];exact hr3
        ·rw[show p+16*(q+1)=r+16 by omega]
         exact (HB2.out.alloc _).grown hg3 (fun e=>by have:=hown b e.symm;omega)
        ·exact grown_trans (grown_below HG2.out ((Below.refl _ _).alloc (Nat.le_refl _) _)) hg3 (fun g hg=>.inl (hown g hg))
       case measure=>have:=HLT.out;simp[intOf];omega
      ·have HD:=hide (fun (w':World) (h:Blk w' b 171 (springCells s r))=>draw_bad b s r w' h hpq hs (by omega))
       have hlen:l.length+2=n2:=by rw[HN.out];exact HN2.out
       have HQ:=hide (new_dry (l:=l) (s:=s) (p:=p) (k:=k) HC0.out (by rw[hlen];omega))
       have hcd:p+16*canDraw s p (l.length+2)=r:=by rw[hlen];unfold canDraw;omega
       have HCD:=hide hcd
       have HB:=hide hB
       have HG:=hide hG
       obtain ⟨ao2,cap2,rfl,hd1,hd2⟩:=Row.anyN hr
       clear hr hB hG hr0 hlt hgd hcd hlen
       go_wp2_with fail
       refine (HD.out _ HB.out).mono ?_
       rintro e w2 ⟨rfl,m,rfl⟩
       clear HD
       go_wp2
       rw[←hPP]
       obtain ⟨q1,q2,q3⟩:=HQ.out
       exact ⟨_,by first | (rw[q1];rfl) | rw[q1],fun _=>rfl,fun h=>absurd (q1.symm.trans h) (by decide),by rw[q2];exact (HKS.out.1.grown HG.out (fun e=>hbk (by injection e with e;exact e.symm))).drewN m,by rw[q3,HCD.out];exact HB.out.drewN m,Chg.of_grown (HG.out.drewN m) (.inl rfl)⟩
     ·obtain rfl:q=n2:=by omega
      have jq:¬ (q:Int)<(q:Int):=by omega
      obtain rfl:q=i+2:=HN2.out.symm
      have hli:=HN.out
      obtain ⟨gd,c,rfl,hc1,hc2,hgd1,hgd2,hcell⟩:=draws_open hr
      have hzl:p+16*(l.length+2)≤s.size:=by rw[hli];omega
      obtain ⟨g0,g1,g2,g3⟩:=new_good' (l:=l) (s:=s) (p:=p) (k:=k) HC0.out hzl
      obtain ⟨hhd,hpd⟩:=Ref.head_size g0
      have hfk:Ref.fkey l s p=s.extract (p+16*i) (p+16*i+16):=by unfold Ref.fkey;rw[hli]
      have hpk:Ref.pdraw l s p=s.extract (p+16*(i+1)) (p+16*(i+1)+16):=by unfold Ref.pdraw;rw[hli]
      rw[←hfk,←hpk] at hcell
      have hfz:(Ref.fkey l s p).size=16:=by rw[hfk,ByteArray.size_extract];omega
      have hpz:(Ref.pdraw l s p).size=16:=by rw[hpk,ByteArray.size_extract];omega
      have hst:Strs wr (.slice ao i cp) l:=by
       have h:=HV.out.grown hG HVB.out
       rw[hli] at h
       exact h
      have HH:=hide (fun (w':World) (h1:Strs w' (.slice ao i cp) l) (h2:Strs w' (.slice (some ⟨gd,0,none⟩) i c) (cuts s p i))=>refHeader_any (.slice ao i cp) (.slice (some ⟨gd,0,none⟩) i c) l (cuts s p i) (Ref.fkey l s p) w' h1 h2 (by rw[hli];exact hn0) (by rw[hli];exact hn3) (by rw[cuts_len,hli]) (by rw[hli];exact HALL.out) (by rw[hli];exact Ref.cuts_size (by omega)) hfz)
      rw[show (⟨(Ref.header l (cuts s p i) (Ref.fkey l s p).data.toList).toArray⟩:ByteArray)=Ref.head l s p by unfold Ref.head;rw[hli]] at HH
      have HKY:=hide (fun w'=>refKey_any (Ref.fkey l s p) (Ref.pdraw l s p) ⟨#[112,97,121,108,111,97,100]⟩ w' (by omega) (by omega) (by decide))
      rw[show (⟨((expO (macL (Ref.pdraw l s p).data.toList (Ref.fkey l s p).data.toList) (⟨#[112,97,121,108,111,97,100]⟩:ByteArray).data.toList 1).take 32).toArray⟩:ByteArray)=Ref.pkey l s p from rfl] at HKY
      have HSZ:=hide (And.intro hhd hpd)
      have HE:=hide g1
      have HKK:=hide g2
      have HBP:=hide (show Ref.beginP l s p=p+16*(i+2) by rw[g3,hli])
      have HST:=hide hst
      have HBW:=hide hB
      rw[←hr0] at HBW
      have HG:=hide hG
      have HKW:=hide (show Blk wr sk 173 (k.cells g) from HKS.out.1.grown hG (fun e=>hbk (by injection e with e;exact e.symm)))
      have HGW:=hide (show Blk wr g 3 (intV k.plan) from HKS.out.2.grown hG (fun e=>hbg (by injection e with e;exact e.symm)))
      have HCL:=hide hcell
      generalize Ref.head l s p=HD at *
      generalize Ref.pdraw l s p=PD at *
      generalize Ref.fkey l s p=FK at *
      generalize hPKe:Ref.pkey l s p=PKY at *
      have HPKE:=hide hPKe
      clear hPKe
      obtain ⟨i1,hi1⟩:∃ i1:Nat,i+1=i1:=⟨_,rfl⟩
      have ti1:(i:Int)+1=(i1:Int):=by omega
      have hwi1:IntKind.i64.wrap ((i1:Nat):Int)=(i1:Int):=IntWalk.i64_in _ (by omega)
      have ji0:¬ (i1:Int)<0:=by omega
      have hi1c:i1≤5:=by omega
      obtain ⟨i2,hi2⟩:∃ i2:Nat,i+2=i2:=⟨_,rfl⟩
      rw[hi1] at HCL
      have ji2:(i:Int)<(i2:Int):=by omega
      have ji3:(i1:Int)<(i2:Int):=by omega
      have jic:(i:Int)≤(c:Int):=by omega
      have hsk:=HKS.out.1.lt
      have hgne:gd≠sk:=by omega
      have hbb:b≠gd:=by omega
      obtain ⟨d1,d2,d3⟩:=HCL.out wr rfl
      have HI2:=hide hi2
      rw[hi2] at HBP HBW ⊢
      have hdr:Below wr.heap.size wr wr.drew:=⟨rfl,rfl,rfl,Nat.le_refl _,fun _ _=>rfl⟩
      have HHD:=hide (HH.out wr.drew (HST.out.after hdr) ((HCL.out wr.drew rfl).1 c))
      clear hr hB hG hcell hfk hpk hst hfz hpz g0 g1 g2 g3 hzl hli hdr HH hhd hpd hr0 hi2 hc1 hc2 hq hlt hpq tn2
      have hhdz:HD.size≤1000:=HSZ.out.1
      have hpdz:PD.size≤1000:=HSZ.out.2
      go_wp2
      go_region_held3 (fun w'=>w'.cell? ⟨gd,i,none⟩=some (.string FK)) (first | assumption | (exact (hb3.cell hgd2).trans (by assumption))) ((go_at_call 188;refine HHD.out.mono ?_;rintro e w3 ⟨rfl,hb3⟩))
      rename_i hH
      clear hH
      have hb3':Below wr.heap.size wr w3:=(show Below wr.heap.size wr wr.drew from ⟨rfl,rfl,rfl,Nat.le_refl _,fun _ _=>rfl⟩).trans hb3
      have HKW3:=hide (And.intro (HKW.out.below hb3' HKW.out.lt) (HGW.out.below hb3' HGW.out.lt))
      have HBW3:=hide (HBW.out.below hb3' HBW.out.lt)
      have HC3:=hide ((Chg.of_grown HG.out (.inl rfl):Chg (fun x=>x=b∨x=sk) w wr).trans (Chg.of_below hb3'))
      obtain ⟨_,d2',d3'⟩:=HCL.out w3 (hb3'.block gd hgd2)
      have hgd3:gd<w3.heap.size:=Nat.lt_of_lt_of_le hgd2 hb3'.size
      have HCL3:=hide (fun (w':World) (h:w'.heap[gd]? = w3.heap[gd]?)=>HCL.out w' (h.trans (hb3'.block gd hgd2)))
      clear d1 d2 d3 hb3 hb3' HKW HGW HBW HG HHD HCL HST
      go_wp2
      go_region_held3 (fun w'=>w'.cell? ⟨gd,i,none⟩=some (.string FK)∧w'.cell? ⟨gd,i1,none⟩=some (.string PD)) (refine ⟨?_,?_⟩ <;> first | assumption | (exact (hb4.cell hgd3).trans (by assumption))) ((go_at_call 23;refine (HKY.out _).mono ?_;rintro e w4 ⟨rfl,hb4⟩))
      rename_i hH
      clear hH
      have hb4':Below w3.heap.size w3 w4:=(show Below w3.heap.size w3 w3.drew from ⟨rfl,rfl,rfl,Nat.le_refl _,fun _ _=>rfl⟩).trans hb4
      have hbA:Below w4.heap.size w4 (w4.alloc (.cells #[.pointer (some ⟨sk,0,none⟩),.string PKY,.string ⟨#[]⟩,.int .i64 0,.int .i64 0] 204)):=(Below.refl _ _).alloc (Nat.le_refl _) _
      have hb5:=hb4'.trans (hbA.mono hb4'.size)
      have hBW:Blk (w4.alloc (.cells #[.pointer (some ⟨sk,0,none⟩),.string PKY,.string ⟨#[]⟩,.int .i64 0,.int .i64 0] 204)) w4.heap.size 204 [.pointer (some ⟨sk,0,none⟩),.string PKY,.string ⟨#[]⟩,.int .i64 0,.int .i64 0]:=Blk.new rfl rfl
      have hwb:w.heap.size≤w4.heap.size:=Nat.le_trans HC3.out.size hb4'.size
      have HGV:=hide (refGive_any w4.heap.size sk g k HD _ (hBW.cell (i:=0) rfl) (HKW3.out.1.below hb5 HKW3.out.1.lt) (HKW3.out.2.below hb5 HKW3.out.2.lt) (by omega) (by omega))
      have HGP:=hide (HKW3.out.2.below hb5 HKW3.out.2.lt)
      have HB5:=hide (HBW3.out.below hb5 HBW3.out.lt)
      have HC5:=hide (HC3.out.trans (Chg.of_below hb5))
      have HBW5:=hide hBW
      have hgd5:gd<(w4.alloc (.cells #[.pointer (some ⟨sk,0,none⟩),.string PKY,.string ⟨#[]⟩,.int .i64 0,.int .i64 0] 204)).heap.size:=Nat.lt_of_lt_of_le hgd3 hb5.size
      have HCL5:=hide (fun (w':World) (h:w'.heap[gd]? = (w4.alloc (.cells #[.pointer (some ⟨sk,0,none⟩),.string PKY,.string ⟨#[]⟩,.int .i64 0,.int .i64 0] 204)).heap[gd]?)=>HCL3.out w' (h.trans (hb5.block gd hgd3)))
      clear d2' d3' hb4 hb4' hb5 hbA hBW HKW3 HBW3 HC3 HKY HCL3 hgd3
      go_wp2_with fail
      refine HGV.out.mono ?_
      rintro e w6 ⟨rfl,hK6,hG6⟩
      have hne:w4.heap.size≠sk:=by omega
      have HBW6:=hide (HBW5.out.grown hG6 (fun e=>hne (by injection e with e)))
      have HGP6:=hide (HGP.out.grown hG6 (fun e=>hgk (by injection e with e)))
      have HB6:=hide (HB5.out.grown hG6 (fun e=>hbk (by injection e with e)))
      have HC6:=hide (HC5.out.grew hG6 (.inl (.inr rfl)))
      obtain ⟨_,_,d6⟩:=HCL5.out w6 (hG6.block gd hgd5 (fun e=>hgne (by injection e with e)))
      have HK6:=hide hK6
      have hps:=k.put_size HD
      have hpp:=k.put_pos HD
      clear HGV hK6 hG6 HBW5 HGP HB5 HC5 HCL5 hgd5
      rcases k.err_cases HD with ⟨he,ho⟩ | ⟨he,ho⟩
      ·rw[he]
       have HE1:=hide (show Ref.newE l s p k=(k.put HD).err PD by rw[HE.out,if_neg (by rw[ho];decide)])
       have HK1:=hide (show Ref.newK l s p k=(k.put HD).put PD by rw[HKK.out,if_neg (by rw[ho];decide)])
       have HGV2:=hide (refGive_any w4.heap.size sk g (k.put HD) PD w6 (HBW6.out.cell (i:=0) rfl) HK6.out HGP6.out (by omega) (by omega))
       clear HE HKK he ho
       go_wp2_with fail
       refine HGV2.out.mono ?_
       rintro e w7 ⟨rfl,hK7,hG7⟩
       have HBW7:=hide (HBW6.out.grown hG7 (fun e=>hne (by injection e with e)))
       have HB7:=hide (HB6.out.grown hG7 (fun e=>hbk (by injection e with e)))
       have HC7:=hide (HC6.out.grew hG7 (.inl (.inr rfl)))
       have HK7:=hide hK7
       clear HGV2 hK7 hG7 HBW6 HGP6 HB6 HC6 HK6 d6
       rcases (k.put HD).err_cases PD with ⟨he,ho⟩ | ⟨he,ho⟩
       ·rw[he] at HE1 ⊢
        clear he ho
        go_wp2
        rw[←hPP]
        exact ⟨_,by rw[HE1.out];rfl,fun h=>absurd HE1.out h,fun _=>⟨w4.heap.size,hwb,rfl,by rw[HPKE.out];exact HBW7.out⟩,by rw[HK1.out];exact HK7.out,by rw[HBP.out];exact HB7.out,HC7.out⟩
       ·rw[he] at HE1 ⊢
        clear he ho
        go_wp2
        rw[←hPP]
        exact ⟨_,by rw[HE1.out];rfl,fun _=>rfl,fun h=>absurd (HE1.out.symm.trans h) (by decide),by rw[HK1.out];exact HK7.out,by rw[HBP.out];exact HB7.out,HC7.out⟩
      ·rw[he]
       have HE1:=hide (show Ref.newE l s p k=16 by rw[HE.out,if_pos ho])
       have HK1:=hide (show Ref.newK l s p k=k.put HD by rw[HKK.out,if_pos ho])
       clear HE HKK he ho d6
       go_wp2
       rw[←hPP]
       exact ⟨_,by rw[HE1.out];rfl,fun _=>rfl,fun h=>absurd (HE1.out.symm.trans h) (by decide),by rw[HK1.out];exact HK6.out,by rw[HBP.out];exact HB6.out,HC6.out⟩
theorem Ref.head_size2 {l:List ByteArray} {s:ByteArray} {p:Nat} (h:Ref.beginE l s p=0):(Ref.head l s p).size≤284∧(Ref.pdraw l s p).size=16:=by
 unfold Ref.beginE at h
 have hc:Ref.chkM l=0:=by
  by_cases hc:Ref.chkM l=0
  ·exact hc
  ·rw[if_pos hc] at h;exact absurd h hc
 rw[if_neg (by rw[hc];simp)] at h
 have hz:p+16*(l.length+2)≤s.size:=by
  by_cases hz:p+16*(l.length+2)≤s.size
  ·exact hz
  ·rw[if_neg hz] at h;cases h
 obtain ⟨h0,h3,_⟩:=Ref.chkM_ok hc
 have hfz:(Ref.fkey l s p).size=16:=by unfold Ref.fkey;rw[ByteArray.size_extract];omega
 have hO:=Ref.okHead (l:=l) (ss:=cuts s p l.length) (key:=(Ref.fkey l s p).data.toList) h0 h3 (cuts_len _ _ _) (Ref.cuts_size (by omega)) (by rw[ba_len,hfz]) (Ref.macB l (cuts s p l.length) (Ref.fkey l s p).data.toList) (Ref.macB_size _ _ _)
 refine ⟨?_,?_⟩
 ·show (⟨(Hd.text _ _ _).toArray⟩:ByteArray).size≤_
  rw[ba_size,hO.text_len,cuts_len]
  omega
 ·unfold Ref.pdraw
  rw[ByteArray.size_extract]
  omega
set_option maxRecDepth 100000 in
set_option maxHeartbeats 3200000 in
theorem refEnc_any (v v2:Value) (l:List ByteArray) (s:ByteArray) (p:Nat) (text:ByteArray) (w:World) (hv:Strs w v l) (hv2:Strs w v2 (cuts s p l.length)) (hc:Ref.chkM l=0) (hz:p+16*(l.length+2)≤s.size) (hx:text.size≤1099511627):
  Calls Tryz.prog 160 #[v,v2,.string (Ref.fkey l s p),.string (Ref.pdraw l s p),.string text] w fun e w'=>e = .returned (.string ⟨(Ref.file l s p text.data.toList).toArray⟩)∧Below w.heap.size w w':=by
 obtain ⟨h0,h3,hall⟩:=Ref.chkM_ok hc
 have hE:Ref.beginE l s p=0:=by unfold Ref.beginE;rw[if_neg (fun q=>q hc),if_pos hz]
 have hfz:(Ref.fkey l s p).size=16:=by unfold Ref.fkey;rw[ByteArray.size_extract];omega
 obtain ⟨hhz,hpz⟩:=Ref.head_size2 hE
 have HH:=hide (refHeader_any v v2 l (cuts s p l.length) (Ref.fkey l s p) w hv hv2 h0 h3 (cuts_len _ _ _) hall (Ref.cuts_size (by omega)) hfz)
 rw[show (⟨(Ref.header l (cuts s p l.length) (Ref.fkey l s p).data.toList).toArray⟩:ByteArray)=Ref.head l s p from rfl] at HH
 have HKY:=hide (fun w'=>refKey_any (Ref.fkey l s p) (Ref.pdraw l s p) ⟨#[112,97,121,108,111,97,100]⟩ w' (by omega) (by omega) (by decide))
 rw[show (⟨((expO (macL (Ref.pdraw l s p).data.toList (Ref.fkey l s p).data.toList) (⟨#[112,97,121,108,111,97,100]⟩:ByteArray).data.toList 1).take 32).toArray⟩:ByteArray)=Ref.pkey l s p from rfl] at HKY
 have HFI:=hide (show Ref.file l s p text.data.toList=(Ref.head l s p).data.toList++(Ref.pdraw l s p).data.toList++Ref.encF (Ref.pkey l s p).data.toList text.data.toList from rfl)
 have hz3:=Ref.pkey_size l s p
 obtain ⟨ao,cp,rfl⟩:=hv.len
 obtain ⟨ao2,cp2,rfl⟩:=hv2.len
 generalize hFL:Ref.file l s p text.data.toList=FILE at *
 generalize Ref.head l s p=HDR at *
 generalize Ref.pdraw l s p=PDR at *
 generalize Ref.pkey l s p=PKY at *
 generalize Ref.fkey l s p=FK at *
 clear hv hv2 hc hz h0 h3 hall hE hfz hFL
 have u1:¬ (9223372036854775807<HDR.size+PDR.size):=by omega
 have hhs:(HDR++PDR).size=HDR.size+PDR.size:=ba_sz _ _
 have hHPz:(HDR++PDR).size≤2000:=by omega
 have hhl:(HDR++PDR).data.toList=HDR.data.toList++PDR.data.toList:=ba_list _ _
 rw[←hhl] at HFI
 have hlen:text.data.toList.length=text.size:=ba_len text
 have HLEN:=hide hlen
 obtain ⟨M,hM⟩:∃ M,Ref.full text.size=M:=⟨_,rfl⟩
 have hMd:M=(text.size-1)/16:=by rw[←hM];rfl
 have HMD:=hide hMd
 have HENC:=hide (show Ref.encF PKY.data.toList text.data.toList=Ref.encB PKY.data.toList text.data.toList M++Ref.box PKY.data.toList M true (text.data.toList.drop (16*M)) by unfold Ref.encF;rw[hlen,hM])
 have HX0:=hide (show text.extract 0 text.size=text from ba_ext (by rw[ext_take,List.take_of_length_le (by rw[ba_len];exact Nat.le_refl _)]))
 have HL0:=hide (show HDR++PDR=⟨((HDR++PDR).data.toList++Ref.encB PKY.data.toList text.data.toList 0).toArray⟩ from ba_ext (by rw[two_toList];exact (List.append_nil _).symm))
 have HPL:=hide (ba_len (HDR++PDR))
 clear hhs hhl hMd hM hlen hhz hpz
 generalize l.length=ln at *
 generalize (cuts s p ln).length=ln2 at *
 generalize hHP:HDR++PDR=HP at *
 go_enter Tryz.func160,Tryz.ntmps160
 go_wp2_with fail
 refine HH.out.mono ?_
 rintro e w1 ⟨rfl,hb1⟩
 clear HH
 go_wp2_with fail
 refine (HKY.out _).mono ?_
 rintro e w2 ⟨rfl,hb2⟩
 have HB2:=hide (hb1.trans (hb2.mono hb1.size))
 clear HKY hb1 hb2
 go_wp2
 clear hHP u1
 go_loopw [4,11,13] (fun vx vt vn wr=>∃ k:Nat,k≤M∧vx = .string (text.extract (16*k) text.size)∧vt = .string ⟨(HP.data.toList++Ref.encB PKY.data.toList text.data.toList k).toArray⟩∧vn = .int .i64 (k:Nat)∧Below w.heap.size w wr) (fun vx _ _ _=>strLen vx)
 case atStart=>exact ⟨0,Nat.zero_le _,by rw[HX0.out],by rw[←HL0.out],rfl,HB2.out⟩
 case round=>
  clear HX0 HL0 HB2
  obtain ⟨k,hk,rfl,rfl,rfl,hbe⟩:=hrel
  have HBE:=hide hbe
  have hxs:(text.extract (16*k) text.size).size=text.size-16*k:=by rw[ByteArray.size_extract];omega
  have htz:(⟨(HP.data.toList++Ref.encB PKY.data.toList text.data.toList k).toArray⟩:ByteArray).size≤2000+32*k:=by
   have h1:=Ref.encB_len PKY.data.toList text.data.toList k
   rw[two_size,List.length_append,HPL.out]
   omega
  clear hbe
  by_cases hlt:k<M
  ·have hbig:16*(k+1)<text.size:=by have:=HMD.out;omega
   have hkb:k≤1099511627:=by omega
   have j1:(16:Int)<((text.extract (16*k) text.size).size:Int):=by omega
   have j2:(16:Int)≤((text.extract (16*k) text.size).size:Int):=by omega
   have j3:16≤(text.extract (16*k) text.size).size:=by omega
   obtain ⟨hch,hnxt⟩:=enc_nums text k hbig
   have HSC:=hide (fun w'=>refBox_any PKY k false ((text.extract (16*k) text.size).extract 0 16) w' hz3 (by omega) (by rw[ByteArray.size_extract];omega))
   rw[hch] at HSC
   have hbs:=Ref.box_size PKY.data.toList k false ((text.data.toList.drop (16*k)).take 16)
   have hbt:((text.data.toList.drop (16*k)).take 16).length≤16:=by rw[List.length_take];omega
   have HEB:=hide (show (⟨(HP.data.toList++Ref.encB PKY.data.toList text.data.toList k).toArray⟩:ByteArray)++⟨(Ref.box PKY.data.toList k false ((text.data.toList.drop (16*k)).take 16)).toArray⟩=⟨(HP.data.toList++Ref.encB PKY.data.toList text.data.toList (k+1)).toArray⟩ from ba_ext (by rw[ba_list,two_toList,two_toList,two_toList,Ref.encB,List.append_assoc]))
   have hbz:(⟨(Ref.box PKY.data.toList k false ((text.data.toList.drop (16*k)).take 16)).toArray⟩:ByteArray).size≤32:=by rw[two_size];omega
   have HNXT:=hide hnxt
   have HXS:=hide hxs
   have HLT:=hide hlt
   generalize (⟨(Ref.box PKY.data.toList k false ((text.data.toList.drop (16*k)).take 16)).toArray⟩:ByteArray)=BB at *
   generalize hTT:(⟨(HP.data.toList++Ref.encB PKY.data.toList text.data.toList k).toArray⟩:ByteArray)=TT at *
   generalize hTX:text.extract (16*k) text.size=TX at *
   have u2:¬ (9223372036854775807<TT.size+BB.size):=by omega
   clear hch hnxt hbs hbt hbz hxs hlt hbig hTT
   go_wp2_with fail
   refine (HSC.out _).mono ?_
   rintro e w4 ⟨rfl,hb4⟩
   have HB4:=hide (HBE.out.trans (hb4.mono HBE.out.size))
   clear HSC hb4
   go_wp2
   go_roundw
   case rel=>
    have h1:=HLT.out
    exact ⟨k+1,by omega,by rw[HNXT.out],by rw[HEB.out],by go_num,HB4.out⟩
   case measure=>
    have h1:=HXS.out
    have h2:=HLT.out
    have h3:=HMD.out
    simp only[strLen,HNXT.out,ByteArray.size_extract]
    omega
  ·obtain rfl:k=M:=by omega
   have HSC:=hide (fun w'=>refBox_any PKY k true (text.extract (16*k) text.size) w' hz3 (by have:=HMD.out;omega) (by rw[ByteArray.size_extract];omega))
   have hch:(text.extract (16*k) text.size).data.toList=text.data.toList.drop (16*k):=by rw[sub_list,List.take_of_length_le (by rw[List.length_drop,HLEN.out];exact Nat.le_refl _)]
   rw[hch] at HSC
   have hbs:=Ref.box_size PKY.data.toList k true (text.data.toList.drop (16*k))
   have hbt:(text.data.toList.drop (16*k)).length≤16:=by rw[List.length_drop,HLEN.out];have:=HMD.out;omega
   have j1:¬ (16:Int)<((text.extract (16*k) text.size).size:Int):=by have:=HMD.out;omega
   have HEB:=hide (show (⟨(HP.data.toList++Ref.encB PKY.data.toList text.data.toList k).toArray⟩:ByteArray)++⟨(Ref.box PKY.data.toList k true (text.data.toList.drop (16*k))).toArray⟩=⟨FILE.toArray⟩ from ba_ext (by rw[ba_list,two_toList,two_toList,two_toList,HFI.out,HENC.out,List.append_assoc]))
   have hbz:(⟨(Ref.box PKY.data.toList k true (text.data.toList.drop (16*k))).toArray⟩:ByteArray).size≤32:=by rw[two_size];omega
   generalize (⟨(Ref.box PKY.data.toList k true (text.data.toList.drop (16*k))).toArray⟩:ByteArray)=BB at *
   generalize (⟨(HP.data.toList++Ref.encB PKY.data.toList text.data.toList k).toArray⟩:ByteArray)=TT at *
   generalize text.extract (16*k) text.size=TX at *
   have u2:¬ (9223372036854775807<TT.size+BB.size):=by have:=HMD.out;omega
   clear hch hbs hbt hbz hxs hlt htz
   go_wp2_with fail
   refine (HSC.out _).mono ?_
   rintro e w4 ⟨rfl,hb4⟩
   have HB4:=hide (HBE.out.trans (hb4.mono HBE.out.size))
   clear HSC hb4
   go_wp2
   go_ret
   exact ⟨by rw[←HEB.out];rfl,HB4.out⟩
theorem newK_facts (l:List ByteArray) (s:ByteArray) (p:Nat) (k:Snk) (hk:k.pos≤k.plan.length):(Ref.newK l s p k).plan=k.plan∧(Ref.newK l s p k).got.size≤k.got.size+300∧(Ref.newK l s p k).pos≤(Ref.newK l s p k).plan.length:=by
 unfold Ref.newK
 split
 ·exact ⟨rfl,by omega,hk⟩
 ·rename_i hE
  have hE0:Ref.beginE l s p=0:=Decidable.byContradiction hE
  obtain ⟨z1,z2⟩:=Ref.head_size2 hE0
  have g1:=k.put_size (Ref.head l s p)
  have q1:=put_keep hk (Ref.head l s p)
  split
  ·exact ⟨rfl,by omega,q1⟩
  ·have g2:=(k.put (Ref.head l s p)).put_size (Ref.pdraw l s p)
   exact ⟨rfl,by omega,put_keep q1 _⟩
theorem beginP_le (l:List ByteArray) (s:ByteArray) (p:Nat) (hp:p≤s.size):Ref.beginP l s p≤s.size:=by
 unfold Ref.beginP
 split
 ·exact hp
 ·unfold canDraw;omega
theorem Inv.newsW {T:Tags} {base B M:Nat} {σ:Sig} {w:World} (h:Inv T base B M σ w) {j k:Nat} {s:SpringR} (hs:σ.sp[j]? = some s) {t:SinkR} (ht:σ.si[k]? = some t):
  (Blk w s.bx 171 (springCells s.text s.pos.toNat)∧Blk w t.bx 173 (t.snk.cells t.gx)∧Blk w t.gx 3 (intV t.snk.plan))∧2≤s.bx∧s.pos.toNat≤s.text.size∧s.text.size≤M∧(s.bx≠t.bx∧s.bx≠t.gx∧t.gx≠t.bx)∧(s.bm≠t.bm∧s.bm≠t.gm∧t.gm≠t.bm) ∧
  t.snk.got.size≤512*M∧t.snk.pos≤t.snk.plan.length∧t.snk.plan.length≤M∧s.bm<w.heap.size∧t.bm<w.heap.size∧s.bx<w.heap.size∧t.bx<w.heap.size∧T s.bx=(20,j)∧T s.bm=(21,j) ∧
  (∀ w2,Chg (fun x=>x=s.bx∨x=t.bx) w w2→Blk w2 s.bm 171 (springCells s.text s.pos.toNat)∧Blk w2 t.bm 173 (t.snk.cells t.gm)∧Blk w2 t.gm 3 (intV t.snk.plan)) ∧
  (∀ M' (y:Snk) (q:Nat) w2 w3,M≤M'→M'≤1073741824→Chg (fun x=>x=s.bx∨x=t.bx) w w2→Blk w2 s.bx 171 (springCells s.text q)→Blk w2 t.bx 173 (y.cells t.gx)→Chg (fun x=>x=s.bm∨x=t.bm) w2 w3→Blk w3 s.bm 171 (springCells s.text q)→Blk w3 t.bm 173 (y.cells t.gm)→q≤s.text.size→y.plan=t.snk.plan→y.got.size≤512*M'→y.pos≤y.plan.length →
   ∃ T',Inv T' base B M' { σ with sp:=σ.sp.set j (s.turn q),si:=σ.si.set k (t.turn y) } w3∧Below base w w3∧(∀ g,w.heap.size≤g→g<w2.heap.size→T' g=(40,σ.wr.length))∧(∀ g,w2.heap.size≤g→T' g=(41,σ.wr.length))):=by
 obtain ⟨a1,a2⟩:=h.sp j s hs
 obtain ⟨⟨b1,b2⟩,b3,b4⟩:=h.si k t ht
 have KP:=h.spK j s hs
 have KS:=h.siK k t ht
 have ne:∀ {x y:Nat} {c d:Nat × Nat},T x=c→T y=d→c≠d→x≠y:=fun h1 h2 hcd e=>hcd (by rw[←h1,←h2,e])
 rw[KP.cells] at a1 a2
 rw[KS.cells] at b1 b3
 have h2:2≤s.bx:=by
  rcases Nat.lt_or_ge s.bx base with q | q
  ·have:=(h.old _ q).symm.trans a1.2
   simp at this
  ·exact Nat.le_trans h.two q
 have k1:=KP.lo
 have k2:=KP.hi
 have k3:=KS.lo
 have k4:=KS.hi
 have n1:s.bm≠s.bx:=ne a2.2 a1.2 (by simp)
 have n2:s.bm≠t.bx:=ne a2.2 b1.2 (by simp)
 have n3:t.bm≠s.bx:=ne b3.2 a1.2 (by simp)
 have n4:t.bm≠t.bx:=ne b3.2 b1.2 (by simp)
 have n5:t.gm≠s.bx:=ne b4.2 a1.2 (by simp)
 have n6:t.gm≠t.bx:=ne b4.2 b1.2 (by simp)
 refine ⟨⟨a1.1,b1.1,b2.1⟩,h2,by omega,KP.sz,⟨ne a1.2 b1.2 (by simp),ne a1.2 b2.2 (by simp),ne b2.2 b1.2 (by simp)⟩,⟨ne a2.2 b3.2 (by simp),ne a2.2 b4.2 (by simp),ne b4.2 b3.2 (by simp)⟩,KS.got,by show t.pos.toNat≤t.plan.length;omega,KS.pl,a2.1.lt,b3.1.lt,a1.1.lt,b1.1.lt,a1.2,a2.2,fun w2 hC=>⟨hC.blk a2.1 (fun e=>e.elim n1 n2),hC.blk b3.1 (fun e=>e.elim n3 n4),hC.blk b4.1 (fun e=>e.elim n5 n6)⟩,?_⟩
 intro M' y q w2 w3 hM hM2 hC hx1 hx2 hC2 hm1 hm2 hq hy1 hy2 hy3
 have st1:Stays T (fresh T w (40,σ.wr.length)) w w2 (fun c=>c=(20,j)∨c=(21,j)∨c=(22,k)∨c=(24,k)):=Stays.of_chg _ hC (fun i _ e=>by
  rcases e with rfl | rfl
  ·simp[a1.2]
  ·simp[b1.2])
 have t2:fresh T w (40,σ.wr.length) s.bm=(21,j):=(fresh_old T w _ s.bm a2.1.lt).trans a2.2
 have t3:fresh T w (40,σ.wr.length) t.bm=(24,k):=(fresh_old T w _ t.bm b3.1.lt).trans b3.2
 have st2:Stays (fresh T w (40,σ.wr.length)) (fresh (fresh T w (40,σ.wr.length)) w2 (41,σ.wr.length)) w2 w3 (fun c=>c=(20,j)∨c=(21,j)∨c=(22,k)∨c=(24,k)):=Stays.of_chg _ hC2 (fun i _ e=>by
  rcases e with rfl | rfl
  ·simp[t2]
  ·simp[t3])
 have st:=st1.trans st2
 refine ⟨_,h.turnSS hM hM2 hs ht st (hC2.blk hx1 (fun e=>e.elim (fun e=>n1 e.symm) (fun e=>n3 e.symm))) hm1 hq (hC2.blk hx2 (fun e=>e.elim (fun e=>n2 e.symm) (fun e=>n4 e.symm))) hm2 hy1 hy2 hy3,st.below h.bsz h.old (by simp),fun g h1 h3=>?_,fun g h1=>fresh_new _ _ _ _ h1⟩
 rw[fresh_old _ _ _ _ h3,fresh_new _ _ _ _ h1]
theorem Std.twoWr {base B M:Nat} {σ:Sig} {w w':World} (h:Std base B M σ w w') (i:Nat) (p:WrR) (hp:σ.wr[i]? = some p):
  ∃ g c,σ.vwr = .slice (some ⟨g,0,none⟩) σ.wr.length c∧c≤2 ^ 63-1∧∀ w2,Std base B M σ w w2→w2.cell? ⟨g,i*2,none⟩=some (.pointer (some ⟨p.bx,0,none⟩))∧w2.cell? ⟨g,i*2+1,none⟩=some (.pointer (some ⟨p.bm,0,none⟩)):=by
 obtain ⟨⟨T,h1⟩,_⟩:=h
 have hl:=(List.getElem?_eq_some_iff.1 hp).1
 obtain ⟨g,c,hv,_,hm,_⟩:=RowT.cells2 (f:=fun p:WrR=>ptrs p.bx p.bm) (fun _=>rfl) h1.rwr (by omega)
 refine ⟨g,c,hv,hm,fun w2 h2=>?_⟩
 obtain ⟨⟨T2,h3⟩,_⟩:=h2
 obtain ⟨g',c',hv',_,_,_,_,_,hcell⟩:=RowT.cells2 (f:=fun p:WrR=>ptrs p.bx p.bm) (fun _=>rfl) h3.rwr (by omega)
 rw[hv] at hv'
 injection hv' with e1 _ _
 injection e1 with e1
 injection e1 with e1 _ _
 subst e1
 exact ⟨hcell i p hp 0 _ rfl,hcell i p hp 1 _ rfl⟩
theorem Std.lenWr {base B M:Nat} {σ:Sig} {w w':World} (h:Std base B M σ w w'):∃ ao c,σ.vwr = .slice ao σ.wr.length c:=by
 obtain ⟨⟨T,h1⟩,_⟩:=h
 obtain ⟨a1,b1,e1,_⟩:=h1.rwr.zero
 exact ⟨a1,b1,e1⟩
theorem Std.below {base B M:Nat} {σ:Sig} {w w1 w2:World} (h:Std base B M σ w w1) (hb:Below w1.heap.size w1 w2):Std base B M σ w w2:=by
 obtain ⟨⟨T,h1⟩,h2⟩:=h
 exact ⟨⟨_,h1.below hb⟩,h2.trans (hb.mono h1.bsz)⟩
theorem cell_lt {w:World} {b i:Nat} {v:Value} (h:w.cell? ⟨b,i,none⟩=some v):b<w.heap.size:=by
 rcases Nat.lt_or_ge b w.heap.size with q | q
 ·exact q
 ·simp[World.cell?,Array.getElem?_eq_none q] at h
theorem chg_cell {S:Nat→Prop} {w w':World} (h:Chg S w w') {b i:Nat} (hb:b<w.heap.size) (hn:¬ S b):w'.cell? ⟨b,i,none⟩=w.cell? ⟨b,i,none⟩:=by
 simp only[World.cell?,h.block b hb hn]
theorem Strs.chg {S:Nat→Prop} {w w':World} {v:Value} {l:List ByteArray} (h:Strs w v l) (hc:Chg S w w') (hb:∀ g o n c,v = .slice (some ⟨g,o,none⟩) n c→0<l.length→¬ S g):Strs w' v l:=by
 have hlt:=h.blt
 rcases h with h | ⟨g,o,c,rfl,hx⟩
 ·exact .inl h
 ·refine .inr ⟨g,o,c,rfl,fun i x hi=>?_⟩
  have hl:0<l.length:=Nat.lt_of_le_of_lt (Nat.zero_le i) (List.getElem?_eq_some_iff.1 hi).1
  rw[chg_cell hc (hlt g o _ c rfl hl) (hb g o _ c rfl hl)]
  exact hx i x hi
def Lent (σ:Sig) (v c:Value) (l:List ByteArray):Prop:=
 (∀ g o n k,v = .slice (some ⟨g,o,none⟩) n k→0<l.length→∀ (i:Nat) (s:SpringR),σ.sp[i]? = some s→g≠s.bx) ∧
 (∀ g o n k,c = .slice (some ⟨g,o,none⟩) n k→0<l.length→(∀ (i:Nat) (s:SpringR),σ.sp[i]? = some s→g≠s.bx∧g≠s.bm)∧∀ (i:Nat) (t:SinkR),σ.si[i]? = some t→g≠t.bx)
def LendP (M:Nat) (σ:Sig) (w:World) (e:Ending) (w':World):Prop:=∃ v c l,e = .returned (.tuple #[v,c])∧Below w.heap.size w w'∧l.length≤M∧Strs w' v l∧Strs w' c l∧Lent σ v c l
theorem part_len {α:Type} (l:List α) (a N:Nat) (h:a+N≤l.length):((l.drop a).take N).length=N:=by rw[List.length_take,List.length_drop];omega
theorem part_strs {w:World} {g:Nat} {l:List ByteArray} (h:Blk w g 9 (strV l)) (a N C:Nat) (hle:a+N≤l.length):Strs w (.slice (some ⟨g,a,none⟩) N C) ((l.drop a).take N):=by
 refine .inr ⟨g,a,C,by rw[part_len l a N hle],fun i x hx=>?_⟩
 have hi:i<N:=by have:=(List.getElem?_eq_some_iff.1 hx).1;rw[part_len l a N hle] at this;exact this
 rw[List.getElem?_take_of_lt hi,List.getElem?_drop] at hx
 exact h.cell (by simp[strV,hx])
theorem part_any {T:Tags} {w:World} {c:Nat × Nat} {v:Value} {l:List ByteArray} (h:Lst T w c v l) (ao:Option Addr) (hv:v = .slice ao l.length l.length) (a N m C:Nat) (hle:a+N≤l.length) (hm:a+N≤m) {A:Option Addr} (hA:(if m=a then ao else ao.map (·.add a))=A):
  Strs w (.slice A N C) ((l.drop a).take N)∧∀ g o n k,(Value.slice A N C) = .slice (some ⟨g,o,none⟩) n k→0<((l.drop a).take N).length→T g=c∧g<w.heap.size:=by
 have hpl:=part_len l a N hle
 rcases Nat.eq_zero_or_pos N with h0 | h0
 ·subst h0
  exact ⟨.inl ⟨List.take_zero,_,_,rfl⟩,fun g o n k _ hl=>by rw[hpl] at hl;exact absurd hl (Nat.lt_irrefl _)⟩
 ·obtain ⟨g,hg,hB⟩:=h.open (by omega)
  rw[hv] at hg
  injection hg with hg
  subst hg
  have hma:¬ m=a:=by omega
  rw[if_neg hma] at hA
  have e:(some (⟨g,0,none⟩:Addr)).map (·.add a)=some ⟨g,a,none⟩:=by simp[Addr.add_mid]
  rw[e] at hA
  subst hA
  refine ⟨part_strs hB.1 a N C hle,fun g' o n k he _=>?_⟩
  injection he with he
  injection he with he
  injection he with he
  subst he
  exact ⟨hB.2,hB.1.lt⟩
set_option maxRecDepth 100000 in
set_option maxHeartbeats 3200000 in
theorem lend_any {T:Tags} {base B M:Nat} {σ:Sig} {w:World} (h:Inv T base B M σ w) (k:Int) (hk1 : -9223372036854775808≤k) (hk2:k≤9223372036854775807):
  Calls Tryz.prog 92 #[.pointer (some ⟨B,0,none⟩),.int .i64 k] w (LendP M σ w):=by
 generalize hPP:LendP M σ w=PP
 by_cases h0:σ.ls.length=0
 ·obtain ⟨ao,cap,hv,hcap⟩:=h.rls.zero
  have c15:=h.hw.1.cell (i:=15) rfl
  rw[hv,h0] at c15
  clear hv h0 h
  go_enter Tryz.func92,Tryz.ntmps92
  go_wp2
  rw[←hPP]
  exact ⟨_,_,[],rfl,Below.refl _ _,Nat.zero_le _,.inl ⟨rfl,_,_,rfl⟩,.inl ⟨rfl,_,_,rfl⟩,fun _ _ _ _ _ hl=>absurd hl (Nat.lt_irrefl _),fun _ _ _ _ _ hl=>absurd hl (Nat.lt_irrefl _)⟩
 ·have h0':0<σ.ls.length:=by omega
  have hpk:=pickN_lt k σ.ls.length h0'
  obtain ⟨p,hp⟩:∃ p,σ.ls[pickN k σ.ls.length]? = some p:=⟨_,List.getElem?_eq_getElem hpk⟩
  obtain ⟨g1,cp1,hv1,hc1,hm1,_,_,hcell1⟩:=h.rls.cells h0'
  obtain ⟨g2,cp2,hv2,hc2,hm2,_,_,hcell2⟩:=h.rlw.cells h0'
  have d1:=hcell1 (pickN k σ.ls.length) p.v (by simp[hp])
  have d2:=hcell2 (pickN k σ.ls.length) p.v2 (by simp[hp])
  have c15:=h.hw.1.cell (i:=15) rfl
  have c16:=h.hw.1.cell (i:=16) rfl
  have c17:=h.hw.1.cell (i:=17) rfl
  have c18:=h.hw.1.cell (i:=18) rfl
  have c19:=h.hw.1.cell (i:=19) rfl
  rw[hv1] at c15
  rw[hv2] at c16
  obtain ⟨l1,l2⟩:=h.ls _ p hp
  obtain ⟨a1,ha1⟩:=l1.shape
  obtain ⟨a2,ha2⟩:=l2.shape
  rw[ha1] at d1
  rw[ha2] at d2
  have hpl:=(h.sizes.2.2.1 p (List.mem_of_getElem? hp)).1
  have hlen:=h.bound.2.2.2.2.2.2.2.1
  have hMb:=h.bound.1
  unfold maxLen at hm1 hm2
  obtain ⟨ln,hln⟩:∃ ln,p.l.length=ln:=⟨_,rfl⟩
  rw[hln] at d1 d2 hpl
  obtain ⟨m1,hm1'⟩:∃ m1,ln+1=m1:=⟨_,rfl⟩
  obtain ⟨at_,hat⟩:∃ x,pickN σ.fr.v m1=x:=⟨_,rfl⟩
  have hatl:at_<m1:=by rw[←hat];exact pickN_lt _ _ (by omega)
  obtain ⟨m2,hm2'⟩:∃ m2,ln-at_+1=m2:=⟨_,rfl⟩
  obtain ⟨N,hN⟩:∃ x,pickN σ.n.v m2=x:=⟨_,rfl⟩
  have hNl:N<m2:=by rw[←hN];exact pickN_lt _ _ (by omega)
  obtain ⟨m3,hm3'⟩:∃ m3,ln-at_-N+1=m3:=⟨_,rfl⟩
  obtain ⟨E,hE⟩:∃ x,pickN σ.ex.v m3=x:=⟨_,rfl⟩
  have hEl:E<m3:=by rw[←hE];exact pickN_lt _ _ (by omega)
  obtain ⟨m4,hm4'⟩:∃ m4,at_+N=m4:=⟨_,rfl⟩
  obtain ⟨m5,hm5'⟩:∃ m5,m4+E=m5:=⟨_,rfl⟩
  obtain ⟨x1,hx1⟩:∃ x,ln-at_=x:=⟨_,rfl⟩
  obtain ⟨x2,hx2⟩:∃ x,x1-N=x:=⟨_,rfl⟩
  have hP0:=fun w=>pick_any k σ.ls.length w hk1 hk2 h0' (by omega)
  have hP1:=fun w=>pick_any σ.fr.v m1 w σ.fr.lo σ.fr.hi (by omega) (by omega)
  have hP2:=fun w=>pick_any σ.n.v m2 w σ.n.lo σ.n.hi (by omega) (by omega)
  have hP3:=fun w=>pick_any σ.ex.v m3 w σ.ex.lo σ.ex.hi (by omega) (by omega)
  rw[hat] at hP1
  rw[hN] at hP2
  rw[hE] at hP3
  have jn:((σ.ls.length:Int)==0)=false:=beq_eq_false_iff_ne.2 (by omega)
  have kp:(pickN k σ.ls.length:Int)<(σ.ls.length:Int):=by omega
  have t1:(ln:Int)+1=(m1:Int):=by omega
  have t2:(ln:Int)-(at_:Int)=(x1:Int):=by omega
  have t3:(x1:Int)+1=(m2:Int):=by omega
  have t4:(x1:Int)-(N:Int)=(x2:Int):=by omega
  have t5:(x2:Int)+1=(m3:Int):=by omega
  have t6:(at_:Int)+(N:Int)=(m4:Int):=by omega
  have t7:(m4:Int)+(E:Int)=(m5:Int):=by omega
  have b1:(at_:Int)≤(m4:Int):=by omega
  have b2:(m4:Int)≤(m5:Int):=by omega
  have b3:(m5:Int)≤(ln:Int):=by omega
  have b4:(m4:Int)≤(ln:Int):=by omega
  have hlb:ln≤1073741824:=by omega
  have hm1b:m1≤1073741825:=by omega
  have hm2b:m2≤1073741825:=by omega
  have hm3b:m3≤1073741825:=by omega
  have hx1b:x1≤1073741825:=by omega
  have hx2b:x2≤1073741825:=by omega
  have hm4b:m4≤1073741825:=by omega
  have hm5b:m5≤1073741825:=by omega
  have hatb:at_≤1073741825:=by omega
  have hNb:N≤1073741825:=by omega
  have hEb:E≤1073741825:=by omega
  have HN1:=hide (And.intro hm4' (And.intro hm5' (show m4≤ln by omega)))
  obtain ⟨A1,hA1⟩:∃ A,(if m5=at_ then a1 else a1.map (·.add at_))=A:=⟨_,rfl⟩
  obtain ⟨A2,hA2⟩:∃ A,(if ln=at_ then a2 else a2.map (·.add at_))=A:=⟨_,rfl⟩
  obtain ⟨x3,hx3⟩:∃ x,m4-at_=x:=⟨_,rfl⟩
  have HAA:=hide (And.intro hA1 (And.intro hA2 hx3))
  have HLN:=hide hln
  have HA:=hide (And.intro ha1 ha2)
  have HL:=hide (And.intro l1 l2)
  have HP0:=hide hP0
  have HP1:=hide hP1
  have HP2:=hide hP2
  have HP3:=hide hP3
  have HI:=hide h
  clear hP0 hP1 hP2 hP3 hat hN hE hatl hNl hEl hm1' hm2' hm3' hm4' hm5' hx1 hx2 hcell1 hcell2 hv1 hv2 hp l1 l2 ha1 ha2 h h0 hln
  generalize σ.ls.length=n at *
  generalize pickN k n=pk at *
  generalize hfr:σ.fr.v=fr at *
  generalize hnn:σ.n.v=nn at *
  generalize hex:σ.ex.v=ex at *
  clear hfr hnn hex
  go_enter Tryz.func92,Tryz.ntmps92
  go_wp2_with fail
  refine (HP0.out _).mono ?_
  rintro e w' ⟨rfl,rfl⟩
  go_wp2_with fail
  refine (HP1.out _).mono ?_
  rintro e w' ⟨rfl,rfl⟩
  go_wp2_with fail
  refine (HP2.out _).mono ?_
  rintro e w' ⟨rfl,rfl⟩
  go_wp2_with fail
  refine (HP3.out _).mono ?_
  rintro e w' ⟨rfl,rfl⟩
  obtain ⟨q1,q2,q3⟩:=HAA.out
  obtain ⟨r1,r2,r3⟩:=HN1.out
  obtain ⟨s1,s2⟩:=HA.out
  obtain ⟨k1,k2⟩:=HL.out
  obtain ⟨P1,P2⟩:=part_any k1 a1 s1 at_ N m5 (m5-at_) (by rw[HLN.out];omega) (by omega) q1
  obtain ⟨Q1,Q2⟩:=part_any k2 a2 s2 at_ N ln (ln-at_) (by rw[HLN.out];omega) (by omega) q2
  have hPL:=part_len p.l at_ N (by rw[HLN.out];omega)
  obtain rfl:x3=N:=by omega
  have HP:=hide (And.intro P1 P2)
  have HPL:=hide hPL
  have HCC:=hide (copied_any _ _ _ Q1 (by rw[hPL];omega))
  have HSB:=hide (fun i s (hs:σ.sp[i]? = some s)=>And.intro (HI.out.sp i s hs).1 (HI.out.sp i s hs).2)
  have HSK:=hide (fun i t (ht:σ.si[i]? = some t)=>(HI.out.si i t ht).1.1)
  rw[hPL] at HCC
  have hNM:=(show x3≤M by omega)
  generalize hLL:(p.l.drop at_).take x3=LL at *
  clear q1 q2 q3 r1 r2 r3 s1 s2 k1 k2 P1 P2 Q1 Q2 hPL hLL HA HL HLN HN1 HAA
  go_wp2_with fail
  refine HCC.out.mono ?_
  rintro e w3 ⟨rfl,hB3,hb3⟩
  have HB3:=hide (And.intro hB3 hb3)
  clear hB3 hb3 HCC
  go_wp2
  rw[←hPP]
  obtain ⟨hB3,hb3⟩:=HB3.out
  obtain ⟨P1,P2⟩:=HP.out
  refine ⟨.slice A1 x3 (m5-at_),.slice (some ⟨w'.heap.size,0,none⟩) x3 x3,LL,rfl,hb3,by rw[HPL.out];exact hNM,P1.after hb3,?_,fun g o n k e hl i s hs=>?_,fun g o n k e hl=>?_⟩
  ·refine .inr ⟨w'.heap.size,0,x3,by rw[HPL.out],fun i x hx=>?_⟩
   rw[Nat.zero_add]
   exact hB3.cell (by simp[strV,hx])
  ·obtain ⟨t1,_⟩:=P2 g o n k e hl
   exact fun eg=>absurd (t1.symm.trans ((congrArg T eg).trans (HSB.out i s hs).1.2)) (by simp)
  ·injection e with e
   injection e with e
   injection e with e
   subst e
   exact ⟨fun i s hs=>⟨Nat.ne_of_gt (HSB.out i s hs).1.1.lt,Nat.ne_of_gt (HSB.out i s hs).2.1.lt⟩,fun i t ht=>Nat.ne_of_gt (HSK.out i t ht).1.lt⟩
theorem infoWrs:(Tryz.prog.info? 121).map (fun i=>(i.zero,i.size,i.bytes))=some (some (.agg #[.pointer none,.pointer none]),2,16):=by kernel_rfl
set_option maxRecDepth 100000 in
set_option maxHeartbeats 800000 in
theorem writer_n {T:Tags} {base B M M':Nat} {σ:Sig} {w:World} (h:Inv T base B M σ w) (o:OpR) (hM:M<M') (hM2:M'≤1073741824) (h1:σ.sp.length=0∨σ.si.length=0):
  Calls Tryz.prog 75 #[.pointer (some ⟨B,0,none⟩),opV o] w fun e w'=>e = .returned (.bool true)∧Done base B M' w w':=by
 have hS:Std base B M σ w (w.alloc (.cells #[.int .i64 o.kind,.int .i64 o.a,.int .i64 o.b,.int .i64 o.c,.string o.s,.string o.t] 28)):=Std.alloc ⟨⟨T,h⟩,Below.refl _ _⟩ _
 obtain ⟨ao1,cp1,ao2,cp2,_,_,hv1,hv2,_⟩:=hS.lens
 have hbd:=h.bound
 have c0:=hS.field 0 (v:=.slice ao1 σ.sp.length cp1) (by show some σ.vsp=_;rw[hv1])
 have c1:=hS.field 1 (v:=.slice ao2 σ.si.length cp2) (by show some σ.vsi=_;rw[hv2])
 have HS:=hide (hS.more (Nat.le_of_lt hM) hM2)
 clear hS h hv1 hv2
 unfold opV
 generalize σ.sp.length=n1 at *
 generalize σ.si.length=n2 at *
 rcases Nat.eq_zero_or_pos n1 with rfl | hp
 ·clear h1
  go_enter Tryz.func75,Tryz.ntmps75
  go_wp2
  go_ret
  exact ⟨rfl,HS.out.done⟩
 ·obtain rfl:n2=0:=by omega
  have z1:((n1:Int)==0)=false:=beq_eq_false_iff_ne.2 (by omega)
  clear h1 hp
  go_enter Tryz.func75,Tryz.ntmps75
  go_wp2
  go_ret
  exact ⟨rfl,HS.out.done⟩
set_option maxRecDepth 100000 in
set_option maxHeartbeats 6400000 in
theorem writer_s {T:Tags} {base B M M':Nat} {σ:Sig} {w:World} (h:Inv T base B M σ w) (o:OpR) (hok:o.ok) (hM:M<M') (hM2:M'≤1073741824) (h1:0<σ.sp.length) (h2:0<σ.si.length):
  Calls Tryz.prog 75 #[.pointer (some ⟨B,0,none⟩),opV o] w fun e w'=>e = .returned (.bool true)∧Done base B M' w w':=by
 have hS:Std base B M σ w (w.alloc (.cells #[.int .i64 o.kind,.int .i64 o.a,.int .i64 o.b,.int .i64 o.c,.string o.s,.string o.t] 28)):=Std.alloc ⟨⟨T,h⟩,Below.refl _ _⟩ _
 have hlt:w.heap.size<(w.alloc (.cells #[.int .i64 o.kind,.int .i64 o.a,.int .i64 o.b,.int .i64 o.c,.string o.s,.string o.t] 28)).heap.size:=by simp
 have hbx:Blk (w.alloc (.cells #[.int .i64 o.kind,.int .i64 o.a,.int .i64 o.b,.int .i64 o.c,.string o.s,.string o.t] 28)) w.heap.size 28 o.cells:=Blk.new rfl rfl
 have hbd:=h.bound
 have hoa:=hok.a
 have hob:=hok.b
 have hoc:=hok.c
 have HTW:=hide h.two
 have HNW:=hide h.nwr
 have hpk1:=pickN_lt o.a σ.sp.length h1
 have hpk2:=pickN_lt o.c σ.si.length h2
 obtain ⟨p1,hp1⟩:∃ p,σ.sp[pickN o.a σ.sp.length]? = some p:=⟨_,List.getElem?_eq_getElem hpk1⟩
 obtain ⟨q1,hq1⟩:∃ p,σ.si[pickN o.c σ.si.length]? = some p:=⟨_,List.getElem?_eq_getElem hpk2⟩
 obtain ⟨g1,cap1,hw1,hm1,hcell1⟩:=hS.two.1 _ p1 hp1
 obtain ⟨g2,cap2,hw2,hm2,hcell2⟩:=hS.two.2.1 _ q1 hq1
 have hpick1:=fun w=>pick_any o.a σ.sp.length w hoa.1 hoa.2 h1 (by omega)
 have hpick2:=fun w=>pick_any o.c σ.si.length w hoc.1 hoc.2 h2 (by omega)
 have jn1:(0:Int)<(σ.sp.length:Int):=by omega
 have jn2:(0:Int)<(σ.si.length:Int):=by omega
 have kp1:(pickN o.a σ.sp.length:Int)<(σ.sp.length:Int):=by omega
 have kp2:(pickN o.c σ.si.length:Int)<(σ.si.length:Int):=by omega
 have zn1:((σ.sp.length:Int)==0)=false:=beq_eq_false_iff_ne.2 (by omega)
 have zn2:((σ.si.length:Int)==0)=false:=beq_eq_false_iff_ne.2 (by omega)
 have HPK1:=hide hpick1
 have HPK2:=hide hpick2
 have HC1:=hide hcell1
 have HC2:=hide hcell2
 have HP1:=hide (And.intro hp1 hq1)
 have HF0:=hide (show ∀ w2,Std base B M σ w w2→w2.cell? ⟨B,0,none⟩=some (.slice (some ⟨g1,0,none⟩) σ.sp.length cap1) from fun w2 h2=>h2.field 0 (by show some σ.vsp=_;rw[hw1]))
 have HF1:=hide (show ∀ w2,Std base B M σ w w2→w2.cell? ⟨B,1,none⟩=some (.slice (some ⟨g2,0,none⟩) σ.si.length cap2) from fun w2 h2=>h2.field 1 (by show some σ.vsi=_;rw[hw2]))
 have HD:=hide (show ∀ w2,Std base B M σ w w2→p1.bx<w2.heap.size∧q1.bx<w2.heap.size from fun w2 h2=>by
  obtain ⟨⟨T2,h3⟩,_⟩:=h2
  exact ⟨(h3.sp _ p1 hp1).1.1.lt,(h3.si _ q1 hq1).1.1.1.lt⟩)
 have HKL:=hide (And.intro hM hM2)
 have HS:=hide hS
 have HX:=hide hbx
 have HOB:=hide hob
 clear hS h hbx hpick1 hpick2 hcell1 hcell2 hp1 hq1 hw1 hw2 hob
 generalize hn1:σ.sp.length=n1 at *
 generalize hn2:σ.si.length=n2 at *
 generalize pickN o.a n1=pk1 at *
 generalize pickN o.c n2=pk2 at *
 clear hn1 hn2
 have c0:=HF0.out _ HS.out
 have c1:=HF1.out _ HS.out
 have e2:=HX.out.cell (i:=2) (v:=.int .i64 o.b) rfl
 unfold opV
 go_enter Tryz.func75,Tryz.ntmps75
 go_wp2_with fail
 obtain ⟨⟨T9,hI9⟩,hB9⟩:=HS.out
 refine (lend_any hI9 o.b HOB.out.1 HOB.out.2).mono ?_
 rintro e w2 ⟨v,c,l,rfl,hb2,hl,hs1,hs2,hL⟩
 have hbx2:=HX.out.below hb2 hlt
 have e1:=hbx2.cell (i:=1) (v:=.int .i64 o.a) rfl
 have e3:=hbx2.cell (i:=3) (v:=.int .i64 o.c) rfl
 have HS2:=hide (HS.out.below hb2)
 have HST:=hide (And.intro hs1 hs2)
 have HL:=hide (And.intro hl hL)
 clear hI9 hB9 HS HX hb2 hbx2 hs1 hs2 hl hL c0 c1 e2
 have c0:=HF0.out _ HS2.out
 generalize hsb:w.heap.size=sb at *
 go_wp2
 refine wp_letterW (fun w'=>(Std base B M σ w w'∧Strs w' v l∧Strs w' c l)∧w'.cell? ⟨sb,1,none⟩=some (.int .i64 o.a)∧w'.cell? ⟨sb,3,none⟩=some (.int .i64 o.c)) ⟨⟨HS2.out,HST.out⟩,e1,e3⟩ ?_
 clear c0 e1 e3 HS2 HST
 rintro wq1 ⟨hS1,e1,e3⟩
 have c0:=HF0.out _ hS1.1
 obtain ⟨d0,d1⟩:=HC1.out _ hS1.1
 replace hS1:=hide hS1
 go_region_held3 (fun w'=>w'.cell? ⟨B,0,none⟩=some (.slice (some ⟨g1,0,none⟩) n1 cap1)∧w'.cell? ⟨sb,1,none⟩=some (.int .i64 o.a)∧w'.cell? ⟨g1,pk1*2,none⟩=some (.pointer (some ⟨p1.bx,0,none⟩))∧w'.cell? ⟨g1,pk1*2+1,none⟩=some (.pointer (some ⟨p1.bm,0,none⟩))) (refine ⟨?_,?_,?_,?_⟩ <;> first | assumption | (exact World.cell?_alloc_later _ _ _ (by assumption))) ((go_at_call 48;refine (HPK1.out _).mono ?_;rintro e w' ⟨rfl,rfl⟩))
 all_goals
  have hbA:Below wq1.heap.size wq1 (wq1.alloc (.cells #[.pointer (some ⟨p1.bx,0,none⟩),.pointer (some ⟨p1.bm,0,none⟩)] 91)).drew:=((Below.refl _ _).alloc (Nat.le_refl _) _).drew
  have HQ:=hide (show Std base B M σ w (wq1.alloc (.cells #[.pointer (some ⟨p1.bx,0,none⟩),.pointer (some ⟨p1.bm,0,none⟩)] 91)).drew∧Strs (wq1.alloc (.cells #[.pointer (some ⟨p1.bx,0,none⟩),.pointer (some ⟨p1.bm,0,none⟩)] 91)).drew v l∧Strs (wq1.alloc (.cells #[.pointer (some ⟨p1.bx,0,none⟩),.pointer (some ⟨p1.bm,0,none⟩)] 91)).drew c l from ⟨(hS1.out.1.alloc _).drew,hS1.out.2.1.after hbA,hS1.out.2.2.after hbA⟩)
  have y0:((wq1.alloc (.cells #[.pointer (some ⟨p1.bx,0,none⟩),.pointer (some ⟨p1.bm,0,none⟩)] 91)).drew).cell? ⟨wq1.heap.size,0,none⟩=some (.pointer (some ⟨p1.bx,0,none⟩)):=World.cell?_alloc_at _ _ _ _ rfl
  have y1:((wq1.alloc (.cells #[.pointer (some ⟨p1.bx,0,none⟩),.pointer (some ⟨p1.bm,0,none⟩)] 91)).drew).cell? ⟨wq1.heap.size,1,none⟩=some (.pointer (some ⟨p1.bm,0,none⟩)):=World.cell?_alloc_at _ _ _ _ rfl
  have e3':((wq1.alloc (.cells #[.pointer (some ⟨p1.bx,0,none⟩),.pointer (some ⟨p1.bm,0,none⟩)] 91)).drew).cell? ⟨sb,3,none⟩=some (.int .i64 o.c):=World.cell?_alloc_later wq1 _ _ e3
  have hd1:=HD.out wq1 hS1.out.1
  clear c0 d0 d1 e1 e3 hS1 hbA
  generalize hWA:(wq1.alloc (.cells #[.pointer (some ⟨p1.bx,0,none⟩),.pointer (some ⟨p1.bm,0,none⟩)] 91)).drew=WA at *
  generalize hs1e:wq1.heap.size=s1 at *
  clear hWA hs1e
  have c1:=HF1.out _ HQ.out.1
  go_wp2
  refine wp_letterW (fun w'=>(Std base B M σ w w'∧Strs w' v l∧Strs w' c l)∧w'.cell? ⟨sb,3,none⟩=some (.int .i64 o.c)∧w'.cell? ⟨s1,0,none⟩=some (.pointer (some ⟨p1.bx,0,none⟩))∧w'.cell? ⟨s1,1,none⟩=some (.pointer (some ⟨p1.bm,0,none⟩))) ⟨HQ.out,e3',y0,y1⟩ ?_
  clear c1 e3' y0 y1 HQ
  rintro wq2 ⟨hS1,e3,y0,y1⟩
  have c1:=HF1.out _ hS1.1
  obtain ⟨d0,d1⟩:=HC2.out _ hS1.1
  replace hS1:=hide hS1
  go_region_held3 (fun w'=>w'.cell? ⟨B,1,none⟩=some (.slice (some ⟨g2,0,none⟩) n2 cap2)∧w'.cell? ⟨sb,3,none⟩=some (.int .i64 o.c)∧w'.cell? ⟨g2,pk2*2,none⟩=some (.pointer (some ⟨q1.bx,0,none⟩))∧w'.cell? ⟨g2,pk2*2+1,none⟩=some (.pointer (some ⟨q1.bm,0,none⟩))) (refine ⟨?_,?_,?_,?_⟩ <;> first | assumption | (exact World.cell?_alloc_later _ _ _ (by assumption))) ((go_at_call 48;refine (HPK2.out _).mono ?_;rintro e w' ⟨rfl,rfl⟩))
  all_goals
   have hbA:Below wq2.heap.size wq2 (wq2.alloc (.cells #[.pointer (some ⟨q1.bx,0,none⟩),.pointer (some ⟨q1.bm,0,none⟩)] 96)).drew:=((Below.refl _ _).alloc (Nat.le_refl _) _).drew
   have hSn:=(hS1.out.1.alloc (.cells #[.pointer (some ⟨q1.bx,0,none⟩),.pointer (some ⟨q1.bm,0,none⟩)] 96)).drew
   have hsv:=hS1.out.2.1.after hbA
   have hsc:=hS1.out.2.2.after hbA
   have x0:((wq2.alloc (.cells #[.pointer (some ⟨q1.bx,0,none⟩),.pointer (some ⟨q1.bm,0,none⟩)] 96)).drew).cell? ⟨wq2.heap.size,0,none⟩=some (.pointer (some ⟨q1.bx,0,none⟩)):=World.cell?_alloc_at _ _ _ _ rfl
   have x1:((wq2.alloc (.cells #[.pointer (some ⟨q1.bx,0,none⟩),.pointer (some ⟨q1.bm,0,none⟩)] 96)).drew).cell? ⟨wq2.heap.size,1,none⟩=some (.pointer (some ⟨q1.bm,0,none⟩)):=World.cell?_alloc_at _ _ _ _ rfl
   have y0':((wq2.alloc (.cells #[.pointer (some ⟨q1.bx,0,none⟩),.pointer (some ⟨q1.bm,0,none⟩)] 96)).drew).cell? ⟨s1,0,none⟩=some (.pointer (some ⟨p1.bx,0,none⟩)):=World.cell?_alloc_later wq2 _ _ y0
   have y1':((wq2.alloc (.cells #[.pointer (some ⟨q1.bx,0,none⟩),.pointer (some ⟨q1.bm,0,none⟩)] 96)).drew).cell? ⟨s1,1,none⟩=some (.pointer (some ⟨p1.bm,0,none⟩)):=World.cell?_alloc_later wq2 _ _ y1
   have hd2:=HD.out wq2 hS1.out.1
   clear c1 d0 d1 e3 y0 y1 hS1 hbA
   generalize hWB:(wq2.alloc (.cells #[.pointer (some ⟨q1.bx,0,none⟩),.pointer (some ⟨q1.bm,0,none⟩)] 96)).drew=WB at *
   generalize hs2e:wq2.heap.size=s2 at *
   clear hWB hs2e
   have hl1:s1<WB.heap.size:=cell_lt y1'
   have hl2:s2<WB.heap.size:=cell_lt x1
   obtain ⟨⟨T9,hI9⟩,hB9⟩:=hSn
   obtain ⟨⟨b1,b2,b3⟩,h2b,hpos,hpz,⟨n11,n12,n13⟩,⟨m11,m12,m13⟩,k1,k2,k3,l1,l2,l3,l4,_,_,hM1,hFin⟩:=hI9.newsW HP1.out.1 HP1.out.2
   obtain ⟨hll,hL1,hL2⟩:=HL.out
   have hMb:=hI9.bound.1
   have HPX:=hide (newWriter_any v l p1.bx p1.text p1.pos.toNat q1.bx q1.gx q1.snk WB ⟨hI9.kt,hI9.ht,Nat.le_trans HTW.out hI9.bsz⟩ hsv (fun g o n c hv hl=>hL1 g o n c hv hl _ _ HP1.out.1) (by omega) b1 h2b hpos (by omega) b2 b3 n11 n12 n13 (by omega) (by omega))
   have HPM:=hide (fun w2 (hC:Chg (fun x=>x=p1.bx∨x=q1.bx) WB w2)=>refNewWriter_any c l p1.bm p1.text p1.pos.toNat q1.bm q1.gm q1.snk w2 (hsc.chg hC (fun g o n k hv hl e=>e.elim (((hL2 g o n k hv hl).1 _ _ HP1.out.1).1) ((hL2 g o n k hv hl).2 _ _ HP1.out.2))) (fun g o n k hv hl=>((hL2 g o n k hv hl).1 _ _ HP1.out.1).2) (by omega) (hM1 w2 hC).1 hpos (by omega) (hM1 w2 hC).2.1 (hM1 w2 hC).2.2 m11 m12 m13 (by omega) (by omega))
   have HY:=hide (fun w2 (hC:Chg (fun x=>x=p1.bx∨x=q1.bx) WB w2)=>And.intro ((chg_cell hC hl1 (fun e=>e.elim (fun e=>absurd e (Nat.ne_of_gt hd1.1)) (fun e=>absurd e (Nat.ne_of_gt hd1.2)))).trans y1') ((chg_cell hC hl2 (fun e=>e.elim (fun e=>absurd e (Nat.ne_of_gt hd2.1)) (fun e=>absurd e (Nat.ne_of_gt hd2.2)))).trans x1))
   have HNK:=hide (newK_facts l p1.text p1.pos.toNat q1.snk k2)
   have HBP:=hide (beginP_le l p1.text p1.pos.toNat hpos)
   have HPKS:=hide (Ref.pkey_size l p1.text p1.pos.toNat)
   have HLT:=hide (And.intro l1 l2)
   have HK1:=hide k1
   have HFN:=hide hFin
   have HB9:=hide hB9
   clear hI9 hB9 b1 b2 b3 h2b hpz n11 n12 n13 m11 m12 m13 k1 k2 k3 l1 l2 l3 l4 hM1 hFin hsv hsc hL1 hL2 hll hl1 hl2 hd1 hd2 HF0 HF1 HC1 HC2 HPK1 HPK2 HD
   go_wp2_with fail
   refine HPX.out.mono ?_
   rintro e w3 ⟨pv,rfl,hk1,hk2,hK3,hB3,hC3⟩
   obtain ⟨y1,x1⟩:=HY.out w3 hC3
   have HM3:=hide (HPM.out w3 hC3)
   generalize hke:Ref.newE l p1.text p1.pos.toNat q1.snk=ke at hk1 hk2 ⊢
   have HKE:=hide hke
   have HC3:=hide (And.intro hC3 (And.intro hB3 hK3))
   have HK2:=hide hk2
   have HKN:=hide hk1
   have hpv:∃ a,pv = .pointer a:=by
    by_cases hk0:ke=0
    ·obtain ⟨ab,_,rfl,_⟩:=hk2 hk0;exact ⟨_,rfl⟩
    ·exact ⟨none,hk1 hk0⟩
   obtain ⟨pa,rfl⟩:=hpv
   clear HPX HPM HY hk1 hk2 hC3 hB3 hK3 y0' y1' x0 hke
   go_wp2_with fail
   refine HM3.out.mono ?_
   rintro e w4 ⟨qv,rfl,hq1,hq2,hK4,hB4,hC4⟩
   rw[HKE.out] at hq1 hq2 ⊢
   obtain ⟨hC3,hB3,hK3⟩:=HC3.out
   obtain ⟨f1,f2,f3⟩:=HNK.out
   have hk1:=HK1.out
   have hkl:=HKL.out
   obtain ⟨T4,hI4,hB4',hT40,hT41⟩:=HFN.out M' _ _ w3 w4 (by omega) hkl.2 hC3 hB3 hK3 hC4 hB4 hK4 HBP.out f1 (by omega) f3
   have HB4:=hide (HB9.out.trans hB4')
   by_cases hk0:ke=0
   ·subst hk0
    obtain ⟨wb,hwb,hpa,hBw⟩:=HK2.out rfl
    injection hpa with hpa
    subst hpa
    obtain ⟨wm,hwm,rfl,hBm⟩:=hq2 rfl
    have hwl:wb<w3.heap.size:=hBw.lt
    have hne:∀ e:wb=p1.bm∨wb=q1.bm,False:=fun e=>by have:=HLT.out;omega
    have HX1:=hide (show At T4 w4 (40,σ.wr.length) wb 201 (WrR.xV ⟨wb,wm,pk2,q1.bx,q1.bm,Ref.pkey l p1.text p1.pos.toNat,0,nought 16,[],0,Ref.pkey l p1.text p1.pos.toNat,⟨#[]⟩,0⟩) from ⟨by unfold WrR.xV;rw[if_pos rfl];exact hC4.blk hBw hne,hT40 wb hwb hwl⟩)
    have HX2:=hide (show At T4 w4 (41,σ.wr.length) wm 204 (WrR.mV ⟨wb,wm,pk2,q1.bx,q1.bm,Ref.pkey l p1.text p1.pos.toNat,0,nought 16,[],0,Ref.pkey l p1.text p1.pos.toNat,⟨#[]⟩,0⟩) from ⟨hBm,hT41 wm hwm⟩)
    have HKK:=hide (show WrK M' ⟨wb,wm,pk2,q1.bx,q1.bm,Ref.pkey l p1.text p1.pos.toNat,0,nought 16,[],0,Ref.pkey l p1.text p1.pos.toNat,⟨#[]⟩,0⟩ from ⟨rfl,fun _=>⟨HPKS.out,rfl,Nat.zero_le _,rfl,rfl,rfl,rfl,Nat.zero_le _⟩⟩)
    have HSO:=hide (show ∃ s,(σ.si.set pk2 (q1.turn (Ref.newK l p1.text p1.pos.toNat q1.snk)))[pk2]? = some s∧s.bx=q1.bx∧s.bm=q1.bm from ⟨_,List.getElem?_set_self (List.getElem?_eq_some_iff.1 HP1.out.2).1,rfl,rfl⟩)
    have c5:=hI4.hw.1.cell (i:=3) rfl
    have hlen:=hI4.nwr
    have hMb:=hI4.bound.1
    have key0:=fun (w1:World) (o:Obj) (hg:(w4.alloc o).grownBy w1 σ.vwr.ownBlock)=>(hI4.hw.1.alloc o).grown hg (fun e=>absurd (hI4.rwr.2 B e.symm) (by rw[hI4.hw.2];decide))
    have HK:=hide key0
    have HROW:=hide hI4.rwr.1
    have HI4:=hide hI4
    simp only at c5 hlen HROW
    clear key0 hI4 hC4 hB4 hK4 hq1 hq2 hBw hBm HKE HK2 HKN hT40 hT41 hB4' HM3 HC3 HFN hwb hwm hwl hne f1 f2 f3 hC3 hB3 hK3 hk1 HNK HBP y1 x1
    go_wp2_with (at_builtin;refine wpList_append_two 121 34 _ 16 infoWrs Tryz.underlying34 rfl (by decide) rfl (.tmp 90) (.tmp 94) rfl _ σ.wr.length _ rfl (HROW.out.alloc _) _ (.pointer (some ⟨wb,0,none⟩)) (.pointer (some ⟨wm,0,none⟩)) rfl rfl rfl (World.cell?_alloc_at _ _ _ _ rfl) (World.cell?_alloc_at _ _ _ _ rfl) ?_ ?_;omega;intro v1 w5 hr1 hg1 hat1;obtain ⟨g9,cap9,cur9,rfl,_⟩:=hr1.open (Nat.succ_pos _);have hbw:=HK.out w5 _ hg1;have d0:=hbw.cell (i:=3) rfl;have f5:=hbw.frozen)
    go_ret
    obtain ⟨T',i1,i2⟩:=HI4.out.addWr (Nat.le_refl _) HKL.out.2 (Nat.lt_of_le_of_lt HNW.out HKL.out.1) ⟨wb,wm,pk2,q1.bx,q1.bm,Ref.pkey l p1.text p1.pos.toNat,0,nought 16,[],0,Ref.pkey l p1.text p1.pos.toNat,⟨#[]⟩,0⟩ HX1.out HX2.out HKK.out HSO.out _ _ hg1 hr1 hat1
    exact ⟨rfl,T',_,i1,HB4.out.trans i2⟩
   ·have z1:(ke==0)=false:=beq_eq_false_iff_ne.2 hk0
    have hpa:=HKN.out hk0
    injection hpa with hpa
    subst hpa
    obtain rfl:=hq1 hk0
    have HF:=hide (show Done base B M' w w4 from ⟨_,_,hI4,HB4.out⟩)
    clear hI4 hC4 hB4 hK4 hq1 hq2 HKE HK2 HKN hT40 hT41 hB4' HM3 HC3 HFN HB4 hk0 f1 f2 f3 hC3 hB3 hK3 hk1 HNK HBP y1 x1
    go_wp2
    go_ret
    exact ⟨by simp,HF.out⟩
theorem writer_any {T:Tags} {base B M M':Nat} {σ:Sig} {w:World} (h:Inv T base B M σ w) (o:OpR) (hok:o.ok) (hM:M<M') (hM2:M'≤1073741824):
  Calls Tryz.prog 75 #[.pointer (some ⟨B,0,none⟩),opV o] w fun e w'=>e = .returned (.bool true)∧Done base B M' w w':=by
 rcases Nat.eq_zero_or_pos σ.sp.length with h1 | h1
 ·exact writer_n h o hM hM2 (.inl h1)
 ·rcases Nat.eq_zero_or_pos σ.si.length with h2 | h2
  ·exact writer_n h o hM hM2 (.inr h2)
  ·exact writer_s h o hok hM hM2 h1 h2
set_option maxRecDepth 100000 in
set_option maxHeartbeats 1600000 in
theorem made_5 {T:Tags} {base B M M':Nat} {σ:Sig} {w:World} (h:Inv T base B M σ w) (o:OpR) (hok:o.ok) (hk:o.kind=5) (ht:o.t.size≤M) (hM:M<M') (hM2:M'≤1073741824):
  Calls Tryz.prog 33 #[.pointer (some ⟨B,0,none⟩),opV o] w fun e w'=>e = .returned (.bool true)∧Done base B M' w w':=by
 have z5:(o.kind==5)=true:=beq_iff_eq.2 hk
 have hS:Std base B M σ w (w.alloc (.cells #[.int .i64 o.kind,.int .i64 o.a,.int .i64 o.b,.int .i64 o.c,.string o.s,.string o.t] 28)):=Std.alloc ⟨⟨T,h⟩,Below.refl _ _⟩ _
 have hlt:w.heap.size<(w.alloc (.cells #[.int .i64 o.kind,.int .i64 o.a,.int .i64 o.b,.int .i64 o.c,.string o.s,.string o.t] 28)).heap.size:=by simp
 have hbx:Blk (w.alloc (.cells #[.int .i64 o.kind,.int .i64 o.a,.int .i64 o.b,.int .i64 o.c,.string o.s,.string o.t] 28)) w.heap.size 28 o.cells:=Blk.new rfl rfl
 have HS:=hide hS
 have HX:=hide hbx
 have HO:=hide hok
 have HKL:=hide (And.intro hM hM2)
 clear hS h hk hbx hok
 unfold opV
 go_enter Tryz.func33,Tryz.ntmps33
 go_wp2_with fail
 obtain ⟨⟨T9,hI9⟩,hB9⟩:=HS.out
 refine (long_any hI9 o HO.out (by omega)).mono ?_
 rintro e w2 ⟨t,rfl,_,hb2⟩
 have hbx2:=HX.out.below hb2 hlt
 have e0:=hbx2.cell (i:=0) (v:=.int .i64 o.kind) rfl
 have e1:=hbx2.cell (i:=1) (v:=.int .i64 o.a) rfl
 have e2:=hbx2.cell (i:=2) (v:=.int .i64 o.b) rfl
 have e3:=hbx2.cell (i:=3) (v:=.int .i64 o.c) rfl
 have e4:=hbx2.cell (i:=4) (v:=.string o.s) rfl
 have e5:=hbx2.cell (i:=5) (v:=.string o.t) rfl
 have HS2:=hide (HS.out.below hb2)
 clear hI9 hB9 HS HX hb2 hbx2
 generalize w.heap.size=sb at *
 go_wp2_with fail
 obtain ⟨⟨T9,hI9⟩,hB9⟩:=HS2.out
 refine (writer_any hI9 o HO.out HKL.out.1 HKL.out.2).mono ?_
 rintro e w3 ⟨rfl,hD⟩
 have HF:=hide (Done.from hB9 hD)
 clear hI9 hB9 hD e0 e1 e2 e3 e4 e5 HS2
 go_wp2
 go_ret
 exact ⟨rfl,HF.out⟩
theorem beg_chk {l:List ByteArray} {s:ByteArray} {p:Nat} (h:Ref.chkM l≠0):Ref.beginE l s p=Ref.chkM l∧Ref.beginP l s p=p:=by
 have e:Ref.beginE l s p=Ref.chkM l:=if_pos h
 unfold Ref.beginP
 rw[if_pos h]
 exact ⟨e,rfl⟩
theorem beg_dry {l:List ByteArray} {s:ByteArray} {p:Nat} (h:Ref.chkM l=0) (hz:¬ p+16*(l.length+2)≤s.size):Ref.beginE l s p=15∧Ref.beginP l s p=p+16*canDraw s p (l.length+2):=by
 have e:Ref.beginE l s p=15:=by unfold Ref.beginE;rw[if_neg (fun q=>q h),if_neg hz]
 unfold Ref.beginP
 rw[if_neg (fun q=>q h)]
 exact ⟨e,rfl⟩
theorem EncP.bad {l:List ByteArray} {b:Nat} {s:ByteArray} {p:Nat} {text:ByteArray} {w w':World} {n:Int} {q:Nat} (hn:n≠0) (hE:Ref.beginE l s p=n) (hP:Ref.beginP l s p=q) (hB:Blk w' b 171 (springCells s q)) (hG:w.grownBy w' (some b)):EncP l b s p text w (.returned (.tuple #[.string ⟨#[]⟩,.int .i64 n])) w':=by
 refine ⟨?_,by rw[hP];exact hB,hG⟩
 rw[hE,if_neg hn]
set_option maxRecDepth 100000 in
set_option maxHeartbeats 6400000 in
theorem lawEnc_any (v:Value) (l:List ByteArray) (b:Nat) (s:ByteArray) (p:Nat) (text:ByteArray) (w:World) (hv:Strs w v l) (hvb:∀ g o n c,v = .slice (some ⟨g,o,none⟩) n c→0<l.length→g≠b) (hl:l.length≤1099511627776)
  (hb:Blk w b 171 (springCells s p)) (hp:p≤s.size) (hs:s.size<1125899906842624) (hx:text.size≤1099511627):
  Calls Tryz.prog 94 #[v,.pointer (some ⟨b,0,none⟩),.string text] w (EncP l b s p text w):=by
 generalize hPP:EncP l b s p text w=PP
 obtain ⟨ao,cp,rfl⟩:=hv.len
 have HV:=hide hv
 have HVB:=hide hvb
 have HBS:=hide hb
 have hbl:=hb.lt
 obtain ⟨n,hn⟩:∃ n:Nat,l.length=n:=⟨_,rfl⟩
 have HN:=hide hn
 rw[hn] at hl ⊢
 clear hv hb hvb
 by_cases h03:n=0∨3<n
 ·have hc:=chkM_two (l:=l) (by rw[hn];exact h03)
  have HQ:=hide (beg_chk (l:=l) (s:=s) (p:=p) (by rw[hc];decide))
  rw[hc] at HQ
  clear hn hc
  rcases h03 with rfl | h3
  ·go_enter Tryz.func94,Tryz.ntmps94
   go_wp2
   rw[←hPP]
   exact EncP.bad (by decide) HQ.out.1 HQ.out.2 HBS.out (World.grownBy.refl _ _)
  ·have z0:((n:Int)==0)=false:=beq_eq_false_iff_ne.2 (by omega)
   have j3:(3:Int)<(n:Int):=by omega
   go_enter Tryz.func94,Tryz.ntmps94
   go_wp2
   rw[←hPP]
   exact EncP.bad (by decide) HQ.out.1 HQ.out.2 HBS.out (World.grownBy.refl _ _)
 ·have hn0:n≠0:=fun e=>h03 (.inl e)
  have hn3:¬ 3<n:=fun e=>h03 (.inr e)
  have z0:((n:Int)==0)=false:=beq_eq_false_iff_ne.2 (by omega)
  have j3:¬ (3:Int)<(n:Int):=by omega
  have H03:=hide (show ¬ (l.length=0∨3<l.length) by rw[hn];exact h03)
  clear hn h03
  go_enter Tryz.func94,Tryz.ntmps94
  go_wp2
  go_loopw [8] (fun vi wr=>∃ i:Nat,i≤n∧vi = .int .i64 (i:Nat)∧w=wr∧∀ j,j<i→(l.getD j ⟨#[]⟩).size=32) (fun vi _=>n-(intOf vi).toNat)
  case atStart=>exact ⟨0,Nat.zero_le _,rfl,rfl,fun j hj=>absurd hj (Nat.not_lt_zero _)⟩
  case round=>
   obtain ⟨i,hi,rfl,rfl,hall⟩:=hrel
   by_cases hlt:i<n
   ·have ji:(i:Int)<(n:Int):=by omega
    obtain ⟨g1,o1,c1,hv1,_,e1⟩:=HV.out.at i (by rw[HN.out];exact hlt)
    injection hv1 with hv1 _ hv1c
    subst hv1
    subst hv1c
    have HALL:=hide hall
    have HLT:=hide hlt
    obtain ⟨mi,hmi⟩:∃ m,l.getD i ⟨#[]⟩=m:=⟨_,rfl⟩
    have HMI:=hide hmi
    rw[hmi] at e1
    clear hmi hall hi hlt
    by_cases h32:mi.size=32
    ·have jz:((mi.size:Int) != 32)=false:=by simp only[bne,beq_iff_eq.2 (show (mi.size:Int)=32 by omega)];rfl
     have H32:=hide h32
     clear h32
     go_wp2
     go_roundw
     case rel=>exact ⟨i+1,HLT.out,by go_num,by first | rfl | trivial,fun j hj=>by
      rcases Nat.eq_or_lt_of_le (Nat.le_of_lt_succ hj) with e | e
      ·rw[e,HMI.out];exact H32.out
      ·exact HALL.out j e⟩
     case measure=>have:=HLT.out;simp[intOf];omega
    ·have jz:((mi.size:Int) != 32)=true:=by rw[bne_iff_ne];omega
     have hc:=chkM_one H03.out (i:=i) (by rw[HN.out];exact HLT.out) (by rw[HMI.out];exact h32)
     have HQ:=hide (beg_chk (l:=l) (s:=s) (p:=p) (by rw[hc];decide))
     rw[hc] at HQ
     clear hc h32
     go_wp2
     rw[←hPP]
     exact EncP.bad (by decide) HQ.out.1 HQ.out.2 HBS.out (World.grownBy.refl _ _)
   ·obtain rfl:i=n:=by omega
    have ji:¬ (i:Int)<(i:Int):=by omega
    have HC0:=hide (chkM_zero H03.out (by rw[HN.out];exact hall))
    clear hlt hi hall
    obtain ⟨n2,hn2⟩:∃ n2:Nat,i+2=n2:=⟨_,rfl⟩
    have tn2:(i:Int)+2=(n2:Int):=by omega
    have hn2b:n2≤5:=by omega
    have HN2:=hide hn2
    clear hn2
    go_wp2
    go_loopw [9,10] (fun vd vi wr=>∃ q:Nat,q≤n2∧vi = .int .i64 (q:Nat)∧p+16*q≤s.size∧Row wr w.heap.size 9 1 vd q (strV (cuts s p q))∧Blk wr b 171 (springCells s (p+16*q))∧w.grownBy wr (some b)) (fun _ vi _=>n2-(intOf vi).toNat)
    case atStart=>exact ⟨0,Nat.zero_le _,rfl,hp,Row.nil _ _ _ _,HBS.out,World.grownBy.refl _ _⟩
    case round=>
     obtain ⟨q,hq,rfl,hpq,hr,hB,hG⟩:=hrel
     have hsz:=hG.size
     obtain ⟨r,hr0⟩:∃ r:Nat,p+16*q=r:=⟨_,rfl⟩
     rw[hr0] at hB hpq
     by_cases hlt:q<n2
     ·have jq:(q:Int)<(n2:Int):=by omega
      by_cases hgd:r+16≤s.size
      ·have HD:=hide (fun (w':World) (h:Blk w' b 171 (springCells s r))=>draw_good b s r w' h hs hgd)
       have HX:=hide (show cuts s p (q+1)=cuts s p q++[s.extract r (r+16)] by rw[cuts_succ,hr0])
       have HQ:=hide hr0
       have HR:=hide hr
       have HB:=hide hB
       have HG:=hide hG
       have HLT:=hide hlt
       have HGD:=hide hgd
       obtain ⟨ao2,cap2,rfl,hd1,hd2⟩:=Row.anyN hr
       unfold maxLen at hd2
       clear hr hB hG hr0 hlt hgd
       generalize s.extract r (r+16)=sx at *
       go_wp2_with fail
       refine (HD.out _ HB.out).mono ?_
       rintro e w2 ⟨rfl,hB2,hG2⟩
       have hne:(Value.slice ao2 q cap2).ownBlock=none∨(Value.slice ao2 q cap2).ownBlock≠some b:=by
        cases hv:(Value.slice ao2 q cap2).ownBlock with
        | none=>exact .inl rfl
        | some g=>
         refine .inr fun e=>?_
         injection e with e
         have:=(HR.out.lt g hv).1
         omega
       have HR2:=hide (HR.out.kept hG2 hne)
       have HG2:=hide (grown_trans HG.out hG2 (fun k hk=>.inr (by injection hk with hk;exact hk.symm)))
       have HB2:=hide hB2
       have hsz2:=HG2.out.size
       clear hB2 hG2 hne HR HG HB HD
       go_wp2_with (at_builtin;refine wpList_append_strB rfl (.tmp 50) (.tmp 52) rfl w.heap.size _ q _ rfl (HR2.out.alloc _) w2.heap.size _ rfl (World.cell?_alloc_at _ _ _ _ rfl) ?_ ?_ ?_;omega;(simp;omega);intro v3 w3 hr3 hg3 hat3)
       have hown:∀ g,(Value.slice ao2 q cap2).ownBlock=some g→w.heap.size≤g:=fun g hg=>(HR2.out.lt g hg).1
       go_roundw
       case rel=>
        have:=HLT.out
        have:=HGD.out
        have hq:=HQ.out
        refine ⟨q+1,by omega,by go_num,by omega,?_,?_,?_⟩
        ·rw[HX.out];exact hr3
        ·rw[show p+16*(q+1)=r+16 by omega]
         exact (HB2.out.alloc _).grown hg3 (fun e=>by have:=hown b e.symm;omega)
        ·exact grown_trans (grown_below HG2.out ((Below.refl _ _).alloc (Nat.le_refl _) _)) hg3 (fun g hg=>.inl (hown g hg))
       case measure=>have:=HLT.out;simp[intOf];omega
      ·have HD:=hide (fun (w':World) (h:Blk w' b 171 (springCells s r))=>draw_bad b s r w' h hpq hs (by omega))
       have hlen:l.length+2=n2:=by rw[HN.out];exact HN2.out
       have HQ:=hide (beg_dry (l:=l) (s:=s) (p:=p) HC0.out (by rw[hlen];omega))
       rw[show p+16*canDraw s p (l.length+2)=r by rw[hlen];unfold canDraw;omega] at HQ
       have HB:=hide hB
       have HG:=hide hG
       obtain ⟨ao2,cap2,rfl,hd1,hd2⟩:=Row.anyN hr
       clear hr hB hG hr0 hlt hgd hlen
       go_wp2_with fail
       refine (HD.out _ HB.out).mono ?_
       rintro e w2 ⟨rfl,m,rfl⟩
       clear HD
       go_wp2
       rw[←hPP]
       exact EncP.bad (by decide) HQ.out.1 HQ.out.2 (HB.out.drewN m) (HG.out.drewN m)
     ·obtain rfl:q=n2:=by omega
      have jq:¬ (q:Int)<(q:Int):=by omega
      obtain rfl:q=i+2:=HN2.out.symm
      have hli:=HN.out
      obtain ⟨gd,c,rfl,hc1,hc2,hgd1,hgd2,hcell⟩:=draws_open hr
      have hzl:p+16*(l.length+2)≤s.size:=by rw[hli];omega
      obtain ⟨g0,_,_,g3⟩:=new_good' (l:=l) (s:=s) (p:=p) (k:=⟨⟨#[]⟩,[],0⟩) HC0.out hzl
      have hfk:Ref.fkey l s p=s.extract (p+16*i) (p+16*i+16):=by unfold Ref.fkey;rw[hli]
      have hpk:Ref.pdraw l s p=s.extract (p+16*(i+1)) (p+16*(i+1)+16):=by unfold Ref.pdraw;rw[hli]
      rw[←hfk,←hpk] at hcell
      have hst:Strs wr (.slice ao i cp) l:=by
       have h:=HV.out.grown hG HVB.out
       rw[hli] at h
       exact h
      have HH:=hide (fun (w':World) (h1:Strs w' (.slice ao i cp) l) (h2:Strs w' (.slice (some ⟨gd,0,none⟩) i c) (cuts s p l.length))=>refEnc_any (.slice ao i cp) (.slice (some ⟨gd,0,none⟩) i c) l s p text w' h1 h2 HC0.out hzl hx)
      have HBP:=hide (show Ref.beginP l s p=p+16*(i+2) by rw[g3,hli])
      have HST:=hide hst
      have HBW:=hide hB
      rw[←hr0] at HBW
      have HG:=hide hG
      have HCL:=hide hcell
      have HE0:=hide g0
      generalize Ref.pdraw l s p=PD at *
      generalize Ref.fkey l s p=FK at *
      generalize hFF:Ref.file l s p text.data.toList=FF at *
      have HFF:=hide hFF
      clear hFF
      obtain ⟨i1,hi1⟩:∃ i1:Nat,i+1=i1:=⟨_,rfl⟩
      have ti1:(i:Int)+1=(i1:Int):=by omega
      have hwi1:IntKind.i64.wrap ((i1:Nat):Int)=(i1:Int):=IntWalk.i64_in _ (by omega)
      have ji0:¬ (i1:Int)<0:=by omega
      have hi1c:i1≤5:=by omega
      obtain ⟨i2,hi2⟩:∃ i2:Nat,i+2=i2:=⟨_,rfl⟩
      have ji2:(i:Int)<(i2:Int):=by omega
      have ji3:(i1:Int)<(i2:Int):=by omega
      have jic:(i:Int)≤(c:Int):=by omega
      have hbb:b≠gd:=by omega
      obtain ⟨d1,d2,d3⟩:=HCL.out wr rfl
      rw[hi1] at d3
      have HI2:=hide hi2
      rw[hi2] at HBP HBW ⊢
      have hdr:Below wr.heap.size wr wr.drew:=⟨rfl,rfl,rfl,Nat.le_refl _,fun _ _=>rfl⟩
      have HHD:=hide (HH.out wr.drew (HST.out.after hdr) (by rw[hli];exact (HCL.out wr.drew rfl).1 c))
      clear hr hB hG hcell hfk hpk hst g0 g3 hzl hli hdr HH hr0 hi2 hc1 hc2 hq hlt hpq tn2 HCL hi1
      go_wp2
      go_region_held3 (fun w'=>w'.cell? ⟨gd,i,none⟩=some (.string FK)∧w'.cell? ⟨gd,i1,none⟩=some (.string PD)) (refine ⟨?_,?_⟩ <;> first | assumption | (exact (hb3.cell hgd2).trans (by assumption))) ((go_at_call 160;refine HHD.out.mono ?_;rintro e w3 ⟨rfl,hb3⟩))
      rename_i hH
      clear hH
      have hb3':Below wr.heap.size wr w3:=(show Below wr.heap.size wr wr.drew from ⟨rfl,rfl,rfl,Nat.le_refl _,fun _ _=>rfl⟩).trans hb3
      have HBW3:=hide (HBW.out.below hb3' HBW.out.lt)
      have HG3:=hide (grown_below HG.out hb3')
      clear d1 d2 d3 hb3 hb3' HBW HG HHD HST
      go_wp2
      rw[←hPP]
      exact ⟨by rw[HE0.out,if_pos rfl,HFF.out];rfl,by rw[HBP.out];exact HBW3.out,HG3.out⟩
end Go.Proofs.YtmjekklgefdolaaGreatDoor
