import Derived.Test.YtmjekklgefdolaaGreatDoorPl14
namespace Go.Proofs.YtmjekklgefdolaaGreatDoor
open Go.RowKit
structure UW (w:World) (vs vb:Value) (mac:ByteArray) (ss bs:List ByteArray) (wi:World):Prop where
 hb:Blk wi w.heap.size 155 [vs,vb,.string mac]
 be:Below w.heap.size w wi
 tb:Tabs wi
 s1:Strs wi vs ss
 s2:Strs wi vb bs
theorem UW.after {w:World} {vs vb:Value} {mac:ByteArray} {ss bs:List ByteArray} {wi wj:World} (h:UW w vs vb mac ss bs wi) (hb:Below wi.heap.size wi wj):UW w vs vb mac ss bs wj:=
 ⟨h.hb.below hb h.hb.lt,h.be.trans (hb.mono h.be.size),h.tb.after hb,h.s1.after hb,h.s2.after hb⟩
set_option maxRecDepth 100000 in
set_option maxHeartbeats 3200000 in
theorem unwrap_any (master:ByteArray) (vs vb:Value) (mac:ByteArray) (ss bs:List ByteArray) (w:World) (ht:Tabs w) (h1:Strs w vs ss) (h2:Strs w vb bs) (hl:bs.length=ss.length) (hn:ss.length≤3) (hm:master.size≤1000) (hz1:∀ i,(ss.getD i ⟨#[]⟩).size≤1000) (hz2:∀ i,(bs.getD i ⟨#[]⟩).size≤1000):
  Calls Tryz.prog 190 #[.string master,.agg #[vs,vb,.string mac]] w fun e w'=>e = .returned (.tuple #[.string ⟨(Ref.unwA master.data.toList ss bs).1.toArray⟩,.int .i64 (Ref.unwA master.data.toList ss bs).2])∧Below w.heap.size w w':=by
 have hbA:Below w.heap.size w (w.alloc (.cells #[vs,vb,.string mac] 155)):=(Below.refl _ _).alloc (Nat.le_refl _) _
 have hBK:Blk (w.alloc (.cells #[vs,vb,.string mac] 155)) w.heap.size 155 [vs,vb,.string mac]:=Blk.new rfl rfl
 have H0:=hide (show UW w vs vb mac ss bs (w.alloc (.cells #[vs,vb,.string mac] 155)) from ⟨hBK,hbA,ht.after hbA,h1.after hbA,h2.after hbA⟩)
 have HN:Hid (∀ w,Calls Tryz.prog 214 #[.int .i64 12] w fun e w'=>e = .returned (.string ⟨(nought 12).toArray⟩)∧Below w.heap.size w w'):=hide (fun w=>noughts_any 12 w (by decide))
 obtain ⟨ao,cp,rfl⟩:=h1.len
 obtain ⟨bo,dp,rfl⟩:=h2.len
 obtain ⟨n,hnn⟩:∃ n:Nat,ss.length=n:=⟨_,rfl⟩
 have HNN:=hide hnn
 have HLL:=hide (show bs.length=n by rw[hl,hnn])
 have HZ1:=hide hz1
 have HZ2:=hide hz2
 have HA:=hide (show Ref.unwA master.data.toList ss bs=Ref.unw master.data.toList ss bs n 0 by unfold Ref.unwA;rw[hnn])
 rw[HA.out]
 rw[hl] at H0 ⊢
 rw[hnn] at H0 hn ⊢
 clear hbA hBK h1 h2 ht hz1 hz2 hl hnn HA
 go_enter Tryz.func190,Tryz.ntmps190
 go_wp2_with fail
 refine (HN.out _).mono ?_
 rintro e w1 ⟨rfl,hb1⟩
 have U1:=hide (H0.out.after hb1)
 clear HN H0 hb1
 go_wp2
 go_loopw [7] (fun v wr=>∃ i:Nat,i≤n∧v = .int .i64 (i:Nat)∧UW w (.slice ao n cp) (.slice bo n dp) mac ss bs wr∧Ref.unw master.data.toList ss bs n 0=Ref.unw master.data.toList ss bs (n-i) i) (fun v _=>n-(intOf v).toNat)
 case atStart=>exact ⟨0,Nat.zero_le _,rfl,U1.out,rfl⟩
 case round=>
  clear U1
  obtain ⟨i,hi,rfl,hu,hq⟩:=hrel
  have U:=hide hu
  have c0:=hu.hb.cell (i:=0) rfl
  have c1:=hu.hb.cell (i:=1) rfl
  have HQ:=hide hq
  clear hq
  by_cases hlt:i<n
  ·have jk:(i:Int)<(n:Int):=by omega
   obtain ⟨g,o,c,hv1,hgl,e1⟩:=hu.s1.at i (by rw[HNN.out];exact hlt)
   injection hv1 with hv1 hv1n hv1c
   clear hv1n
   subst hv1
   subst hv1c
   obtain ⟨g2,o2,c2,hv2,hgl2,e2⟩:=hu.s2.at i (by rw[HLL.out];exact hlt)
   injection hv2 with hv2 hv2n hv2c
   clear hv2n
   subst hv2
   subst hv2c
   have z1:=HZ1.out i
   have z2:=HZ2.out i
   have hbd:Ref.body master.data.toList ss bs i=Box.opened (Ref.keyL master.data.toList (ss.getD i ⟨#[]⟩).data.toList Ref.inWrap) (nought 12) [] (bs.getD i ⟨#[]⟩).data.toList:=rfl
   have hun:Ref.unw master.data.toList ss bs (n-i) i=if (Ref.body master.data.toList ss bs i).2=0 then ((Ref.body master.data.toList ss bs i).1,0) else Ref.unw master.data.toList ss bs (n-(i+1)) (i+1):=by
    rw[show n-i=(n-(i+1))+1 by omega,Ref.unw]
   rw[hbd] at hun
   have hlen:g<wr.heap.size∧g2<wr.heap.size:=⟨hgl,hgl2⟩
   generalize ss.getD i ⟨#[]⟩=sk at *
   generalize bs.getD i ⟨#[]⟩=bk at *
   have HK:=hide (kKey_any master sk ⟨#[119,114,97,112]⟩ wr (by omega) (by omega) (by decide) U.out.tb.k U.out.tb.h U.out.tb.two)
   rw[show (expO (macL sk.data.toList master.data.toList) (⟨#[119,114,97,112]⟩:ByteArray).data.toList 1).take 32=Ref.keyL master.data.toList sk.data.toList Ref.inWrap from rfl] at HK
   have hkz:(⟨(Ref.keyL master.data.toList sk.data.toList Ref.inWrap).toArray⟩:ByteArray).size=32:=by rw[two_size,Ref.keyL_len]
   have HO:=hide (fun w=>openAt ⟨(Ref.keyL master.data.toList sk.data.toList Ref.inWrap).toArray⟩ ⟨(nought 12).toArray⟩ bk w hkz rfl (by omega))
   rw[two_toList,two_toList] at HO
   have hoc:=Ref.opened_code (Ref.keyL master.data.toList sk.data.toList Ref.inWrap) (nought 12) [] bk.data.toList
   generalize Box.opened (Ref.keyL master.data.toList sk.data.toList Ref.inWrap) (nought 12) [] bk.data.toList=op at *
   generalize (⟨(Ref.keyL master.data.toList sk.data.toList Ref.inWrap).toArray⟩:ByteArray)=kk at *
   have HUN:=hide hun
   have HLT:=hide hlt
   clear hbd hun z1 z2 hkz hlt hi hu
   obtain ⟨ot,oe⟩:=op
   simp only at hoc HO
   go_wp2_with fail
   refine HK.out.mono ?_
   rintro e w2 ⟨rfl,hb2⟩
   have U2:=hide (U.out.after hb2)
   have d1:=U2.out.hb.cell (i:=1) rfl
   have f2:=(hb2.cell hlen.2).trans e2
   clear hb2 HK U c0 c1 e1 e2
   go_wp2_with fail
   refine (HO.out _).mono ?_
   rintro e w3 ⟨rfl,hb3⟩
   have U3:=hide (U2.out.after hb3)
   clear hb3 HO U2 d1 f2
   rcases hoc with rfl | rfl
   ·go_wp2
    refine bodyPost_ret (results_tmp2 rfl _ _ _) rfl ?_
    refine ⟨?_,U3.out.be⟩
    rw[HQ.out,HUN.out]
    rfl
   ·go_wp2
    go_roundw
    case rel=>
     have hq2:Ref.unw master.data.toList ss bs n 0=Ref.unw master.data.toList ss bs (n-(i+1)) (i+1):=by
      rw[HQ.out,HUN.out,if_neg (by decide)]
     exact ⟨i+1,HLT.out,by go_num,U3.out,hq2⟩
    case measure=>have:=HLT.out;simp[intOf];omega
  ·obtain rfl:i=n:=by omega
   have jk:¬ (i:Int)<(i:Int):=by omega
   clear hu
   go_wp2
   refine bodyPost_ret (results_tmp2 rfl _ _ _) rfl ?_
   refine ⟨?_,U.out.be⟩
   rw[HQ.out,Nat.sub_self,Ref.unw]
   rfl
theorem parAns_facts (t:ByteArray):((Hd.parAns t).2≠0∧(Hd.parAns t).2=6∧(Hd.parAns t).1=Hd.nil)∨((Hd.parAns t).2=0∧Hd.Ok (Hd.parAns t).1.ss (Hd.parAns t).1.bs (Hd.parAns t).1.mac∧t=Hd.ofL (Hd.text (Hd.parAns t).1.ss (Hd.parAns t).1.bs (Hd.parAns t).1.mac)):=by
 rcases Hd.parAns_cases t with h | ⟨ss,bs,m,ho,he,h⟩
 ·rw[h]
  exact .inl ⟨(by decide),rfl,rfl⟩
 ·rw[h]
  exact .inr ⟨rfl,ho,he⟩
theorem getD_size_le {l:List ByteArray} {n m:Nat} (h:∀ i,i<n→(l.getD i ⟨#[]⟩).size=m) (hl:l.length=n) (i:Nat):(l.getD i ⟨#[]⟩).size≤m:=by
 rcases Nat.lt_or_ge i n with h1 | h1
 ·rw[h i h1];exact Nat.le_refl _
 ·rw[List.getD_eq_getElem?_getD,List.getElem?_eq_none (by omega)]
  exact Nat.zero_le _
theorem unwA_len (m:List UInt8) {ss bs:List ByteArray} {mac:ByteArray} (h:Hd.Ok ss bs mac):(Ref.unwA m ss bs).1.length≤32:=by
 refine Ref.unw_len m ss bs (fun i=>?_) _ _
 unfold Hd.at_
 rw[ba_len]
 exact getD_size_le (n:=ss.length) h.hb h.nb i
def hdAns (u:List UInt8 × Int) (t mac:ByteArray):List UInt8 × Int:=
 if u.2≠0 then ([],u.2) else if macL (Ref.keyL u.1 [] Ref.inHead) (t.data.toList.take (t.size-45))≠mac.data.toList then ([],8) else (u.1,0)
theorem opnA_ok {m:List UInt8} {t:ByteArray} {ss bs:List ByteArray} {mac:ByteArray} (h:Hd.parAns t=(⟨ss,bs,mac⟩,0)):Ref.opnA m t=hdAns (Ref.unwA m ss bs) t mac:=by
 unfold Ref.opnA hdAns
 rw[h]
 rfl
theorem opnA_bad {m:List UInt8} {t:ByteArray} (h:Hd.parAns t=(Hd.nil,6)):Ref.opnA m t=([],6):=by
 unfold Ref.opnA
 rw[h]
 rfl
set_option maxRecDepth 100000 in
set_option maxHeartbeats 1600000 in
theorem openHeader_ok (master t:ByteArray) (ss bs:List ByteArray) (mac:ByteArray) (w:World) (ht:Tabs w) (hm:master.size≤1000) (hp:Hd.parAns t=(⟨ss,bs,mac⟩,0)) (hO:Hd.Ok ss bs mac) (hts:45≤t.size) (hz:t.size≤1000):
  Calls Tryz.prog 140 #[.string master,.string t] w fun e w'=>e = .returned (ansV (hdAns (Ref.unwA master.data.toList ss bs) t mac))∧Below w.heap.size w w':=by
 have HPA:=hide (pParse_any t w (by omega))
 rw[hp] at HPA
 have hn3:=hO.n3
 have hz1:=getD_size_le (n:=ss.length) hO.hs rfl
 have hz2:=getD_size_le (n:=ss.length) hO.hb hO.nb
 have hms:mac.size≤1099511627776:=by rw[hO.hm];decide
 have HUL:=hide (unwA_len master.data.toList hO)
 have hcd:(Ref.unwA master.data.toList ss bs).2=0∨Ref.unwA master.data.toList ss bs=([],7):=Ref.unw_code _ _ _ _ _
 have hnb:=hO.nb
 have HUW:=hide (fun vs vb (w':World) (t:Tabs w') (a:Strs w' vs ss) (b:Strs w' vb bs)=>unwrap_any master vs vb mac ss bs w' t a b hnb (by omega) hm (fun i=>Nat.le_trans (hz1 i) (by decide)) (fun i=>Nat.le_trans (hz2 i) (by decide)))
 have HT:=hide ht
 have HMA:=hide (fun (key:ByteArray) (w':World) (tt:Tabs w') (h:key.size≤32)=>macOf_any key t w' tt (by omega) hts (by omega))
 have hml:∀ ut,(macL (Ref.keyL ut [] Ref.inHead) (t.data.toList.take (t.size-45))).length=32:=fun ut=>macL_len _ _
 have HML:=hide hml
 generalize Ref.unwA master.data.toList ss bs=ua at *
 obtain ⟨ut,ue⟩:=ua
 change Hid (∀ vs vb (w':World),Tabs w'→Strs w' vs ss→Strs w' vb bs→Calls Tryz.prog 190 #[.string master,.agg #[vs,vb,.string mac]] w' fun e w''=>e = .returned (.tuple #[.string ⟨ut.toArray⟩,.int .i64 ue])∧Below w'.heap.size w' w'') at HUW
 change Hid (ut.length≤32) at HUL
 change Hid (Calls Tryz.prog 123 #[.string t] w fun e w'=>∃ vs vb,e = .returned (.tuple #[.agg #[vs,vb,.string mac],.int .i64 0]) ∧
   Row w' w.heap.size 9 1 vs ss.length (strV ss)∧Row w' w.heap.size 9 1 vb bs.length (strV bs)∧Below w.heap.size w w') at HPA
 clear ht hz1 hz2 hm hp hO hml hnb hn3
 go_enter Tryz.func140,Tryz.ntmps140
 go_wp2_with fail
 refine HPA.out.mono ?_
 rintro e w1 ⟨vs,vb,rfl,hr1,hr2,hb1⟩
 have hbA:Below w1.heap.size w1 (w1.alloc (.cells #[vs,vb,.string mac] 155)):=(Below.refl _ _).alloc (Nat.le_refl _) _
 have hB2:Blk (w1.alloc (.cells #[vs,vb,.string mac] 155)) w1.heap.size 155 [vs,vb,.string mac]:=Blk.new rfl rfl
 have HU2:=hide (HUW.out vs vb _ ((HT.out.after hb1).after hbA) ((Row.strs hr1).after hbA) ((Row.strs hr2).after hbA))
 have HB2:=hide hB2
 have B2:=hide (hb1.trans (hbA.mono hb1.size))
 have HT2:=hide ((HT.out.after hb1).after hbA)
 obtain ⟨o1,c1,rfl,_⟩:=Row.anyN hr1
 obtain ⟨o2,c2,rfl,_⟩:=Row.anyN hr2
 clear HPA hr1 hr2 hb1 hbA hB2 HUW HT
 rcases hcd with hq | hq
 ·change ue=0 at hq
  subst hq
  go_wp2_with fail
  refine HU2.out.mono ?_
  rintro e w2 ⟨rfl,hb2⟩
  have HB3:=hide (HB2.out.below hb2 HB2.out.lt)
  have B3:=hide (B2.out.trans (hb2.mono B2.out.size))
  have HM3:=hide (HMA.out ⟨ut.toArray⟩ w2 (HT2.out.after hb2) (by rw[two_size];exact HUL.out))
  rw[two_toList] at HM3
  have HD0:=hide (show hdAns (ut,0) t mac=if macL (Ref.keyL ut [] Ref.inHead) (t.data.toList.take (t.size-45))≠mac.data.toList then ([],8) else (ut,0) from rfl)
  have hml:=HML.out ut
  generalize macL (Ref.keyL ut [] Ref.inHead) (t.data.toList.take (t.size-45))=MM at *
  have hMz:(⟨MM.toArray⟩:ByteArray).size≤1099511627776:=by rw[two_size,hml];decide
  clear hb2 HU2 HB2 B2 HT2 HMA hml
  go_wp2_with fail
  refine HM3.out.mono ?_
  rintro e w3 ⟨rfl,hb3⟩
  have HB4:=hide (HB3.out.below hb3 HB3.out.lt)
  have B4:=hide (B3.out.trans (hb3.mono B3.out.size))
  have k2:=HB4.out.cell (i:=2) rfl
  have HSA:=hide (same_any ⟨MM.toArray⟩ mac w3 hMz)
  clear hb3 HM3 HB3 B3 hMz
  by_cases heq:MM=mac.data.toList
  ·have hd:decide ((⟨MM.toArray⟩:ByteArray)=mac)=true:=decide_eq_true (ba_ext heq)
   rw[hd] at HSA
   have HAN:=hide (show hdAns (ut,0) t mac=(ut,0) by rw[HD0.out,if_neg (fun h=>h heq)])
   generalize (⟨MM.toArray⟩:ByteArray)=mm at *
   generalize hub:(⟨ut.toArray⟩:ByteArray)=ub at *
   clear hd heq
   go_wp2_with fail
   refine HSA.out.mono ?_
   rintro e w4 ⟨rfl,m4,rfl⟩
   clear HSA
   go_wp2
   refine bodyPost_ret (results_tmp2 rfl _ _ _) rfl ?_
   exact ⟨by rw[HAN.out];unfold ansV;rw[hub];rfl,below_drewN B4.out m4⟩
  ·have hd:decide ((⟨MM.toArray⟩:ByteArray)=mac)=false:=decide_eq_false (fun h=>heq (by rw[←h]))
   rw[hd] at HSA
   have HAN:=hide (show hdAns (ut,0) t mac=([],8) by rw[HD0.out,if_pos heq])
   generalize (⟨MM.toArray⟩:ByteArray)=mm at *
   generalize (⟨ut.toArray⟩:ByteArray)=ub at *
   clear hd heq
   go_wp2_with fail
   refine HSA.out.mono ?_
   rintro e w4 ⟨rfl,m4,rfl⟩
   clear HSA
   go_wp2
   refine bodyPost_ret (results_tmp2 rfl _ _ _) rfl ?_
   exact ⟨by rw[HAN.out];rfl,below_drewN B4.out m4⟩
 ·injection hq with hq1 hq2
  subst hq1
  subst hq2
  go_wp2_with fail
  refine HU2.out.mono ?_
  rintro e w2 ⟨rfl,hb2⟩
  have B3:=hide (B2.out.trans (hb2.mono B2.out.size))
  clear hb2 HU2 HB2 B2 HT2 HMA
  go_wp2
  refine bodyPost_ret (results_tmp2 rfl _ _ _) rfl ?_
  exact ⟨rfl,B3.out⟩
set_option maxRecDepth 100000 in
set_option maxHeartbeats 1600000 in
theorem openHeader_any (master t:ByteArray) (w:World) (ht:Tabs w) (hm:master.size≤1000) (hz:t.size≤1000):
  Calls Tryz.prog 140 #[.string master,.string t] w fun e w'=>e = .returned (.tuple #[.string ⟨(Ref.opnA master.data.toList t).1.toArray⟩,.int .i64 (Ref.opnA master.data.toList t).2])∧Below w.heap.size w w':=by
 rcases Hd.parAns_cases t with h | ⟨ss,bs,mac,hO,hT,h⟩
 ·have HPA:=hide (pParse_any t w (by omega))
  rw[h] at HPA
  rw[opnA_bad h]
  clear h
  go_enter Tryz.func140,Tryz.ntmps140
  go_wp2_with fail
  refine HPA.out.mono ?_
  rintro e w1 ⟨vs,vb,rfl,hr1,hr2,hb1⟩
  obtain ⟨o1,c1,rfl,_⟩:=Row.anyN hr1
  obtain ⟨o2,c2,rfl,_⟩:=Row.anyN hr2
  have B1:=hide hb1
  have hsz:=hb1.size
  clear HPA hr1 hr2 hb1
  go_wp2
  refine bodyPost_ret (results_tmp2 rfl _ _ _) rfl ?_
  exact ⟨rfl,B1.out.alloc hsz _⟩
 ·have hts:t.size=59+75*ss.length:=by
   have:=hO.size_eq
   rw[←hT] at this
   exact this
  rw[opnA_ok h]
  exact openHeader_ok master t ss bs mac w ht hm h hO (by omega) hz
def Ref.opsA (m:List UInt8) (ss bs:List ByteArray) (mac:ByteArray):List UInt8 × Int:=
 if (Ref.unwA m ss bs).2≠0 then ([],7) else if Ref.macH (Ref.unwA m ss bs).1 ss bs≠mac.data.toList then ([],8) else ((Ref.unwA m ss bs).1,0)
theorem opsA_eq {m:List UInt8} {t:ByteArray} {ss bs:List ByteArray} {mac:ByteArray} (hp:Hd.parAns t=(⟨ss,bs,mac⟩,0)) (hO:Hd.Ok ss bs mac) (ht:t=Hd.ofL (Hd.text ss bs mac)):Ref.opnA m t=Ref.opsA m ss bs mac:=by
 have htl:t.data.toList=Hd.text ss bs mac:=by rw[ht];rfl
 have hts:t.size=(Hd.text ss bs mac).length:=by rw[←ba_len,htl]
 rw[opnA_ok hp]
 unfold hdAns Ref.opsA Ref.macH
 rw[htl,hts,Ref.text_top hO]
 by_cases h:(Ref.unwA m ss bs).2≠0
 ·rw[if_pos h,if_pos h]
  rcases Ref.unw_code m ss bs ss.length 0 with q | q
  ·exact absurd q h
  ·show ([],(Ref.unw m ss bs ss.length 0).2)=_
   rw[q]
 ·rw[if_neg h,if_neg h]
structure OpS (w:World) (hb:Nat) (vs vb:Value) (mac:ByteArray) (ss bs:List ByteArray) (wi:World):Prop where
 hd:Blk wi hb 155 [vs,vb,.string mac]
 be:Below w.heap.size w wi
 s1:Strs wi vs ss
 s2:Strs wi vb bs
theorem OpS.after {w:World} {hb:Nat} {vs vb:Value} {mac:ByteArray} {ss bs:List ByteArray} {wi wj:World} (h:OpS w hb vs vb mac ss bs wi) (hb2:Below wi.heap.size wi wj):OpS w hb vs vb mac ss bs wj:=
 ⟨h.hd.below hb2 h.hd.lt,h.be.trans (hb2.mono h.be.size),h.s1.after hb2,h.s2.after hb2⟩
set_option maxRecDepth 100000 in
set_option maxHeartbeats 1600000 in
theorem refOpens_any (master:ByteArray) (hb:Nat) (vs vb:Value) (mac:ByteArray) (ss bs:List ByteArray) (w:World) (h0:OpS w hb vs vb mac ss bs w) (hO:Hd.Ok ss bs mac) (hm:master.size≤1000000000):
  Calls Tryz.prog 144 #[.string master,.pointer (some ⟨hb,0,none⟩)] w fun e w'=>e = .returned (ansV (Ref.opsA master.data.toList ss bs mac))∧Below w.heap.size w w':=by
 have hn3:=hO.n3
 have H0:=hide h0
 obtain ⟨ao,cp,rfl⟩:=h0.s1.len
 obtain ⟨bo,dp,rfl⟩:=h0.s2.len
 obtain ⟨n,hnn⟩:∃ n:Nat,ss.length=n:=⟨_,rfl⟩
 have hll:bs.length=n:=by rw[hO.nb,hnn]
 have hz1:∀ x ∈ ss,x.size≤1000:=fun x hx=>by
  obtain ⟨i,hi,rfl⟩:=List.getElem_of_mem hx
  have:=hO.hs i hi
  rw[List.getD_eq_getElem?_getD,List.getElem?_eq_getElem hi] at this
  exact Nat.le_trans (Nat.le_of_eq this) (by decide)
 have hz2:∀ x ∈ bs,x.size≤1000:=fun x hx=>by
  obtain ⟨i,hi,rfl⟩:=List.getElem_of_mem hx
  have:=hO.hb i (by rw[←hO.nb];exact hi)
  rw[List.getD_eq_getElem?_getD,List.getElem?_eq_getElem hi] at this
  exact Nat.le_trans (Nat.le_of_eq this) (by decide)
 have HMC:=hide (fun (key:ByteArray) (w':World) (h:OpS w hb (.slice ao ss.length cp) (.slice bo bs.length dp) mac ss bs w') (hk:key.size≤1000)=>refMac_any key hb _ _ mac ss bs w' h.hd h.s1 h.s2 hO.nb (by omega) hz1 hz2 (by omega))
 rw[hll,hnn] at HMC
 have HNN:=hide hnn
 have HLL:=hide hll
 have HO:=hide hO
 have HA:=hide (show Ref.unwA master.data.toList ss bs=Ref.unw master.data.toList ss bs n 0 by unfold Ref.unwA;rw[hnn])
 have HV:=hide (show Ref.opsA master.data.toList ss bs mac=if (Ref.unw master.data.toList ss bs n 0).2≠0 then ([],7) else if Ref.macH (Ref.unw master.data.toList ss bs n 0).1 ss bs≠mac.data.toList then ([],8) else ((Ref.unw master.data.toList ss bs n 0).1,0) by unfold Ref.opsA;rw[HA.out])
 generalize hRR:Ref.opsA master.data.toList ss bs mac=RR at *
 rw[hll] at H0
 rw[hnn] at H0 hn3
 have HM:=hide hm
 clear h0 hO hnn hll hm HA hz1 hz2 hRR
 go_enter Tryz.func144,Tryz.ntmps144
 go_wp2
 go_loopw [6] (fun v wr=>∃ i:Nat,i≤n∧v = .int .i64 (i:Nat)∧OpS w hb (.slice ao n cp) (.slice bo n dp) mac ss bs wr∧Ref.unw master.data.toList ss bs n 0=Ref.unw master.data.toList ss bs (n-i) i) (fun v _=>n-(intOf v).toNat)
 case atStart=>exact ⟨0,Nat.zero_le _,rfl,H0.out,rfl⟩
 case round=>
  clear H0
  obtain ⟨i,hi,rfl,hu,hq⟩:=hrel
  have U:=hide hu
  have HQ:=hide hq
  have c0:=hu.hd.cell (i:=0) rfl
  have c1:=hu.hd.cell (i:=1) rfl
  clear hq
  by_cases hlt:i<n
  ·have jk:(i:Int)<(n:Int):=by omega
   obtain ⟨g,o,c,hv1,hgl,e1⟩:=hu.s1.at i (by rw[HNN.out];exact hlt)
   injection hv1 with hv1 hv1n hv1c
   clear hv1n
   subst hv1
   subst hv1c
   obtain ⟨g2,o2,c2,hv2,hgl2,e2⟩:=hu.s2.at i (by rw[HLL.out];exact hlt)
   injection hv2 with hv2 hv2n hv2c
   clear hv2n
   subst hv2
   subst hv2c
   have z1:=HO.out.hs i (by rw[HNN.out];exact hlt)
   have z2:=HO.out.hb i (by rw[HNN.out];exact hlt)
   have hbd:Ref.body master.data.toList ss bs i=Box.opened (Ref.keyL master.data.toList (ss.getD i ⟨#[]⟩).data.toList Ref.inWrap) (nought 12) [] (bs.getD i ⟨#[]⟩).data.toList:=rfl
   have hun:Ref.unw master.data.toList ss bs (n-i) i=if (Ref.body master.data.toList ss bs i).2=0 then ((Ref.body master.data.toList ss bs i).1,0) else Ref.unw master.data.toList ss bs (n-(i+1)) (i+1):=by
    rw[show n-i=(n-(i+1))+1 by omega,Ref.unw]
   rw[hbd] at hun
   generalize ss.getD i ⟨#[]⟩=sk at *
   generalize bs.getD i ⟨#[]⟩=bk at *
   have hmm:=HM.out
   have HK:=hide (refKey_any master sk ⟨#[119,114,97,112]⟩ wr (by omega) (by omega) (by decide))
   rw[show (expO (macL sk.data.toList master.data.toList) (⟨#[119,114,97,112]⟩:ByteArray).data.toList 1).take 32=Ref.keyL master.data.toList sk.data.toList Ref.inWrap from rfl] at HK
   have hkz:(⟨(Ref.keyL master.data.toList sk.data.toList Ref.inWrap).toArray⟩:ByteArray).size=32:=by rw[two_size,Ref.keyL_len]
   have HOP:Hid (∀ w,Calls Tryz.prog 56 #[.string ⟨(Ref.keyL master.data.toList sk.data.toList Ref.inWrap).toArray⟩,.string ⟨#[0,0,0,0,0,0,0,0,0,0,0,0]⟩,.string ⟨#[]⟩,.string bk] w fun e w'=>e = .returned (.tuple #[.string ⟨(Box.opened (Ref.keyL master.data.toList sk.data.toList Ref.inWrap) (nought 12) [] bk.data.toList).1.toArray⟩,.int .i64 (Box.opened (Ref.keyL master.data.toList sk.data.toList Ref.inWrap) (nought 12) [] bk.data.toList).2])∧Below w.heap.size w w'):=hide (fun w=>refOpenAt ⟨(Ref.keyL master.data.toList sk.data.toList Ref.inWrap).toArray⟩ ⟨(nought 12).toArray⟩ bk w hkz rfl (by omega))
   have hoc:=Ref.opened_code (Ref.keyL master.data.toList sk.data.toList Ref.inWrap) (nought 12) [] bk.data.toList
   have hol:=Ref.opened_len (Ref.keyL master.data.toList sk.data.toList Ref.inWrap) (nought 12) [] bk.data.toList
   rw[ba_len,z2] at hol
   generalize Box.opened (Ref.keyL master.data.toList sk.data.toList Ref.inWrap) (nought 12) [] bk.data.toList=op at *
   generalize (⟨(Ref.keyL master.data.toList sk.data.toList Ref.inWrap).toArray⟩:ByteArray)=kk at *
   have HUN:=hide hun
   have HLT:=hide hlt
   clear hbd hun hkz hlt hi hu hmm z1 z2
   obtain ⟨ot,oe⟩:=op
   simp only at hoc HOP hol
   go_wp2_with fail
   refine HK.out.mono ?_
   rintro e w2 ⟨rfl,hb2⟩
   have U2:=hide (U.out.after hb2)
   have d1:=U2.out.hd.cell (i:=1) rfl
   have f2:=(hb2.cell hgl2).trans e2
   clear hb2 HK U c0 c1 e1 e2
   go_wp2_with fail
   refine (HOP.out _).mono ?_
   rintro e w3 ⟨rfl,hb3⟩
   have U3:=hide (U2.out.after hb3)
   clear hb3 HOP U2 d1 f2
   rcases hoc with rfl | rfl
   ·have HMA:=hide (HMC.out ⟨ot.toArray⟩ w3 U3.out (by rw[two_size];omega))
    rw[two_toList] at HMA
    have hq1:Ref.unw master.data.toList ss bs n 0=(ot,0):=by rw[HQ.out,HUN.out];rfl
    have HQ1:=hide hq1
    generalize hOT:(⟨ot.toArray⟩:ByteArray)=OT at *
    have HOT:=hide hOT
    clear hOT
    by_cases hmc:Ref.macH ot ss bs=mac.data.toList
    ·rw[hmc,show (⟨mac.data.toList.toArray⟩:ByteArray)=mac from ba_ext rfl] at HMA
     have HEQ:=hide hmc
     clear hmc hq1 HMC
     go_wp2_with fail
     refine HMA.out.mono ?_
     rintro e w4 ⟨rfl,hb4⟩
     have U4:=hide (U3.out.after hb4)
     have d2:=U4.out.hd.cell (i:=2) rfl
     clear hb4 HMA U3
     go_wp2
     refine bodyPost_ret (results_tmp2 rfl _ _ _) rfl ?_
     exact ⟨by rw[HV.out,HQ1.out,if_neg (by simp),if_neg (fun q=>q HEQ.out)];unfold ansV;rw[HOT.out];rfl,U4.out.be⟩
    ·have HEQ:=hide hmc
     have zt:((⟨(Ref.macH ot ss bs).toArray⟩:ByteArray).toList==mac.toList)=false:=str_ne hmc
     generalize (⟨(Ref.macH ot ss bs).toArray⟩:ByteArray)=mm at *
     clear hmc hq1 HMC
     go_wp2_with fail
     refine HMA.out.mono ?_
     rintro e w4 ⟨rfl,hb4⟩
     have U4:=hide (U3.out.after hb4)
     have d2:=U4.out.hd.cell (i:=2) rfl
     clear hb4 HMA U3
     go_wp2
     refine bodyPost_ret (results_tmp2 rfl _ _ _) rfl ?_
     exact ⟨by rw[HV.out,HQ1.out,if_neg (by simp),if_pos HEQ.out];rfl,U4.out.be⟩
   ·go_wp2
    go_roundw
    case rel=>
     have hq2:Ref.unw master.data.toList ss bs n 0=Ref.unw master.data.toList ss bs (n-(i+1)) (i+1):=by
      rw[HQ.out,HUN.out,if_neg (by decide)]
     exact ⟨i+1,HLT.out,by go_num,U3.out,hq2⟩
    case measure=>have:=HLT.out;simp[intOf];omega
  ·obtain rfl:i=n:=by omega
   have jk:¬ (i:Int)<(i:Int):=by omega
   have hq1:Ref.unw master.data.toList ss bs i 0=([],7):=by rw[HQ.out,Nat.sub_self,Ref.unw]
   have HQ1:=hide hq1
   clear hu HMC hq1
   go_wp2
   refine bodyPost_ret (results_tmp2 rfl _ _ _) rfl ?_
   exact ⟨by rw[HV.out,HQ1.out,if_pos (by decide)];rfl,U.out.be⟩
def rdCells (src:Value) (key:ByteArray) (n:Nat) (ahead text:ByteArray) (e:Int):List Value:=[src,.string key,.int .u64 (n:Nat),.string ahead,.string text,.int .i64 e]
structure RdRep (rb b:Nat) (r:Ref.Rd) (w:World):Prop where
 hb:Blk w rb 183 (rdCells (if r.e=0 then .pointer (some ⟨b,0,none⟩) else .pointer none) ⟨r.key.toArray⟩ r.n ⟨r.ahead.toArray⟩ ⟨r.text.toArray⟩ r.e)
 ok:r.e=0→r.key.length=32∧r.ahead.length≤1
 tx:r.text.length≤1000
theorem SrcRep.after {b g:Nat} {x:Src} {w w':World} (h:SrcRep b g x w) (hb:Below w.heap.size w w'):SrcRep b g x w':=⟨h.hb.below hb h.hb.lt,h.hg.below hb h.hg.lt,h.sz,h.at_,h.pl,h.st⟩
namespace Ref
def New (m:List UInt8) (x:Src) (i0:Src) (i1:Int) (i2:List UInt8):Prop:=∀ P:Src→Int→List UInt8→Prop,(m.length≠32→P x 1 [])→(∀ (y:Src) (j:Nat),m.length=32→Src.Top x.rest x 0 y j 2→P y 17 [])→(∀ (y:Src) (j c:Nat),m.length=32→Src.Top x.rest x 0 y j c→c≠2→(opnA m (topS x j)).2≠0→P y (opnA m (topS x j)).2 [])→(∀ (y:Src) (j c:Nat) (z:Src) (d:Nat),m.length=32→Src.Top x.rest x 0 y j c→c≠2→(opnA m (topS x j)).2=0→Src.Ask y 16 z d→d≠0→P z (if d=2 then 17 else 10) [])→(∀ (y:Src) (j c:Nat) (z:Src),m.length=32→Src.Top x.rest x 0 y j c→c≠2→(opnA m (topS x j)).2=0→Src.Ask y 16 z 0→P z 0 (keyL (opnA m (topS x j)).1 (topS y 16).data.toList inBody))→P i0 i1 i2
theorem New.len {m:List UInt8} {x:Src} (h0:m.length≠32):New m x x 1 []:=fun _ c0 _ _ _ _=>c0 h0
theorem New.src {m:List UInt8} {x:Src} (y:Src) (j:Nat) (h0:m.length=32) (h1:Src.Top x.rest x 0 y j 2):New m x y 17 []:=fun _ _ c1 _ _ _=>c1 y j h0 h1
theorem New.top {m:List UInt8} {x:Src} (y:Src) (j c:Nat) (h0:m.length=32) (h1:Src.Top x.rest x 0 y j c) (h2:c≠2) (h3:(opnA m (topS x j)).2≠0):New m x y (opnA m (topS x j)).2 []:=fun _ _ _ c2 _ _=>c2 y j c h0 h1 h2 h3
theorem New.cut {m:List UInt8} {x:Src} (y:Src) (j c:Nat) (z:Src) (d:Nat) (h0:m.length=32) (h1:Src.Top x.rest x 0 y j c) (h2:c≠2) (h3:(opnA m (topS x j)).2=0) (h4:Src.Ask y 16 z d) (h5:d≠0):New m x z (if d=2 then 17 else 10) []:=fun _ _ _ _ c3 _=>c3 y j c z d h0 h1 h2 h3 h4 h5
theorem New.ok {m:List UInt8} {x:Src} (y:Src) (j c:Nat) (z:Src) (h0:m.length=32) (h1:Src.Top x.rest x 0 y j c) (h2:c≠2) (h3:(opnA m (topS x j)).2=0) (h4:Src.Ask y 16 z 0):New m x z 0 (keyL (opnA m (topS x j)).1 (topS y 16).data.toList inBody):=fun _ _ _ _ _ c4=>c4 y j c z h0 h1 h2 h3 h4
theorem New.elim {m:List UInt8} {x:Src} {motive:∀ i0 i1 i2,New m x i0 i1 i2→Prop} (len:∀ h0,motive _ _ _ (New.len h0)) (src:∀ y j h0 h1,motive _ _ _ (New.src y j h0 h1)) (top:∀ y j c h0 h1 h2 h3,motive _ _ _ (New.top y j c h0 h1 h2 h3)) (cut:∀ y j c z d h0 h1 h2 h3 h4 h5,motive _ _ _ (New.cut y j c z d h0 h1 h2 h3 h4 h5)) (ok:∀ y j c z h0 h1 h2 h3 h4,motive _ _ _ (New.ok y j c z h0 h1 h2 h3 h4)) {i0 i1 i2} (h:New m x i0 i1 i2):motive _ _ _ h:=by
 obtain ⟨_,q⟩:=h (fun i0 i1 i2=>∃ h,motive i0 i1 i2 h) (fun h0=>⟨_,len h0⟩) (fun y j h0 h1=>⟨_,src y j h0 h1⟩) (fun y j c h0 h1 h2 h3=>⟨_,top y j c h0 h1 h2 h3⟩) (fun y j c z d h0 h1 h2 h3 h4 h5=>⟨_,cut y j c z d h0 h1 h2 h3 h4 h5⟩) (fun y j c z h0 h1 h2 h3 h4=>⟨_,ok y j c z h0 h1 h2 h3 h4⟩)
 exact q
theorem opnA_len (m:List UInt8) (t:ByteArray):(opnA m t).1.length≤32:=by
 unfold opnA
 split
 ·exact Nat.zero_le _
 ·rename_i h
  split
  ·exact Nat.zero_le _
  ·split
   ·exact Nat.zero_le _
   ·rcases parAns_facts t with ⟨h1,_⟩ | ⟨_,h2,_⟩
    ·exact absurd h1 h
    ·exact unwA_len m h2
end Ref
def NewRP (m:ByteArray) (b g:Nat) (x:Src) (w:World) (e:Ending) (w':World):Prop:=∃ y k key pv,Ref.New m.data.toList x y k key∧e = .returned (.tuple #[pv,.int .i64 k])∧(k≠0→pv = .pointer none)∧(k=0→∃ rb,w.heap.size≤rb∧pv = .pointer (some ⟨rb,0,none⟩)∧RdRep rb b ⟨y,key,0,[],[],0⟩ w')∧SrcRep b g y w'∧w.grownBy w' (some b)
set_option maxRecDepth 100000 in
set_option maxHeartbeats 6400000 in
theorem newReader_any (m:ByteArray) (b g:Nat) (x:Src) (w:World) (ht:Tabs w) (hS:SrcRep b g x w) (hb2:2≤b):
  Calls Tryz.prog 76 #[.string m,.pointer (some ⟨b,0,none⟩)] w (NewRP m b g x w):=by
 by_cases hl:m.size=32
 ·have jl:((m.size:Int)==32)=true:=by rw[beq_iff_eq];omega
  have jl2:((m.size:Int) != 32)=false:=by simp only[bne,jl];rfl
  have HRH:=hide (readHeader_any b g x w hS)
  have HT:=hide ht
  have HXA:=hide hS.at_
  have HML:=hide (show m.data.toList.length=32 by rw[ba_len,hl])
  clear ht hS
  go_enter Tryz.func76,Tryz.ntmps76
  go_wp2_with fail
  refine HRH.out.mono ?_
  rintro e w1 ⟨y,j,c,hTop,rfl,hS1,hG1⟩
  have L:=hTop.left HXA.out
  have HTOP:=hide hTop
  have HS1:=hide hS1
  have HG1:=hide hG1
  have HT1:=hide (HT.out.grown hG1 hb2)
  have hj:=L.le (by decide)
  clear HRH hTop hS1 hG1 HT
  by_cases hc:c=2
  ·subst hc
   rw[if_pos rfl,if_pos rfl]
   clear L
   go_wp2
   refine bodyPost_ret (results_tmp2 rfl _ _ _) rfl ?_
   exact ⟨y,17,[],_,Ref.New.src y j HML.out HTOP.out,rfl,fun _=>rfl,fun h=>absurd h (by decide),HS1.out,HG1.out⟩
  ·rw[if_neg hc,if_neg hc]
   have htz:(topS x j).size≤1000:=by unfold topS;rw[ByteArray.size_extract];omega
   have HOH:=hide (openHeader_any m (topS x j) w1 HT1.out (by omega) htz)
   have hol:=Ref.opnA_len m.data.toList (topS x j)
   have HC:=hide hc
   have hya:=L.size
   have HN1:=hide (fun (h:(Ref.opnA m.data.toList (topS x j)).2≠0)=>Ref.New.top y j c HML.out HTOP.out HC.out h)
   have HN2:=hide (fun (h:(Ref.opnA m.data.toList (topS x j)).2=0) z d=>Ref.New.cut y j c z d HML.out HTOP.out HC.out h)
   have HN3:=hide (fun (h:(Ref.opnA m.data.toList (topS x j)).2=0) z=>Ref.New.ok y j c z HML.out HTOP.out HC.out h)
   generalize Ref.opnA m.data.toList (topS x j)=op at *
   generalize topS x j=tt at *
   obtain ⟨ot,oe⟩:=op
   simp only at HOH hol HN1 HN2 HN3
   clear hc htz L hj
   go_wp2_with fail
   refine HOH.out.mono ?_
   rintro e w2 ⟨rfl,hb2'⟩
   have HS2:=hide (SrcRep.after HS1.out hb2')
   have HG2:=hide (grown_below HG1.out hb2')
   have HT2:=hide (HT1.out.after hb2')
   clear HOH hb2' HS1 HG1 HT1
   by_cases ho:oe=0
   ·subst ho
    have HGA:=hide (gather_any b g y ⟨#[]⟩ 16 w2 HS2.out (by decide) (by decide))
    go_wp2_with fail
    refine HGA.out.mono ?_
    rintro e w3 ⟨z,d,hA,rfl,hS3,hG3⟩
    have L:=hA.left HS2.out.at_
    have HA:=hide hA
    have HS3:=hide hS3
    have HG3:=hide (grown_trans HG2.out hG3 (fun k hk=>.inr (by injection hk with hk;exact hk.symm)))
    have HT3:=hide (HT2.out.grown hG3 hb2)
    have hge:=L.ge
    have hsz:=L.size
    rw[L.s] at hsz
    have hgs:=gotS_size (got:=⟨#[]⟩) hge hsz
    have hz0:(⟨#[]⟩:ByteArray).size=0:=rfl
    have hcode:=L.code
    clear HGA hA hS3 hG3 HT2 HG2
    by_cases hd2:d=2
    ·subst hd2
     rw[if_pos rfl,if_pos rfl]
     clear L hgs
     go_wp2
     refine bodyPost_ret (results_tmp2 rfl _ _ _) rfl ?_
     exact ⟨z,17,[],_,HN2.out (by simp) z 2 HA.out (by decide),rfl,fun _=>rfl,fun h=>absurd h (by decide),HS3.out,HG3.out⟩
    ·rw[if_neg hd2,if_neg hd2]
     by_cases hd0:d=0
     ·subst hd0
      have hall:=L.all rfl
      have eg:gotS ⟨#[]⟩ y z=topS y 16:=ba_ext (by unfold gotS topS;rw[ba_list,hall];rfl)
      rw[eg] at hgs ⊢
      have j16:¬ ((topS y 16).size:Int)<16:=by omega
      have HKY:=hide (kKey_any ⟨ot.toArray⟩ (topS y 16) ⟨#[112,97,121,108,111,97,100]⟩ w3 (by rw[two_size];omega) (by omega) (by decide) HT3.out.k HT3.out.h HT3.out.two)
      rw[show (expO (macL (topS y 16).data.toList (⟨ot.toArray⟩:ByteArray).data.toList) (⟨#[112,97,121,108,111,97,100]⟩:ByteArray).data.toList 1).take 32=Ref.keyL ot (topS y 16).data.toList Ref.inBody from rfl] at HKY
      have HKL:=hide (Ref.keyL_len ot (topS y 16).data.toList Ref.inBody)
      have HNK:=hide (HN3.out (by simp) z HA.out)
      generalize Ref.keyL ot (topS y 16).data.toList Ref.inBody=ky at *
      generalize topS y 16=ty at *
      clear L eg hall hd2
      go_wp2_with fail
      refine HKY.out.mono ?_
      rintro e w4 ⟨rfl,hb4⟩
      have HS4:=hide (SrcRep.after HS3.out hb4)
      have HG4:=hide (grown_below HG3.out hb4)
      have hsz4:=HG4.out.size
      clear HKY hb4 HS3 HG3 HT3
      generalize hkb:(⟨ky.toArray⟩:ByteArray)=kb at *
      go_wp2
      refine bodyPost_ret (results_tmp2 rfl _ _ _) rfl ?_
      have hbA:Below w4.heap.size w4 (w4.alloc (.cells (rdCells (.pointer (some ⟨b,0,none⟩)) kb 0 ⟨#[]⟩ ⟨#[]⟩ 0).toArray 183)):=(Below.refl _ _).alloc (Nat.le_refl _) _
      refine ⟨z,0,ky,_,HNK.out,rfl,fun h=>absurd rfl h,fun _=>⟨w4.heap.size,hsz4,rfl,?_,fun _=>⟨HKL.out,Nat.zero_le _⟩,Nat.zero_le _⟩,SrcRep.after HS4.out hbA,grown_below HG4.out hbA⟩
      show Blk _ _ _ (rdCells _ ⟨ky.toArray⟩ 0 ⟨#[]⟩ ⟨#[]⟩ 0)
      rw[hkb]
      exact Blk.new rfl rfl
     ·obtain rfl:d=1:=by omega
      have ho:=L.over rfl
      have j16:((gotS ⟨#[]⟩ y z).size:Int)<16:=by omega
      generalize gotS ⟨#[]⟩ y z=gt at *
      clear L ho
      go_wp2
      refine bodyPost_ret (results_tmp2 rfl _ _ _) rfl ?_
      exact ⟨z,10,[],_,HN2.out (by simp) z 1 HA.out (by decide),rfl,fun _=>rfl,fun h=>absurd h (by decide),HS3.out,HG3.out⟩
   ·have z1:(oe != 0)=true:=by rw[bne_iff_ne];exact ho
    have HO:=hide ho
    generalize (⟨ot.toArray⟩:ByteArray)=ob at *
    clear ho hol
    go_wp2
    refine bodyPost_ret (results_tmp2 rfl _ _ _) rfl ?_
    exact ⟨y,oe,[],_,HN1.out HO.out,rfl,fun _=>rfl,fun h=>absurd h HO.out,HS2.out,HG2.out⟩
 ·have jl2:((m.size:Int) != 32)=true:=by rw[bne_iff_ne];omega
  have HL:=hide (show m.data.toList.length≠32 by rw[ba_len];exact hl)
  have HS:=hide hS
  clear hl hS ht
  go_enter Tryz.func76,Tryz.ntmps76
  go_wp2
  refine bodyPost_ret (results_tmp2 rfl _ _ _) rfl ?_
  exact ⟨x,1,[],_,Ref.New.len HL.out,rfl,fun _=>rfl,fun h=>absurd h (by decide),HS.out,World.grownBy.refl _ _⟩
def src0 (s:ByteArray):Src:=⟨s,[],0,0⟩
theorem src0_calm (s:ByteArray):Src.Calm (src0 s).plan:=fun i=>by show 0≤([]:List Int).getD i 0;simp
set_option maxHeartbeats 400000 in
theorem sourceOf_nil (text:ByteArray) (w:World) (hz:text.size≤1099511627776):
  Calls Tryz.prog 71 #[.string text,.slice none 0 0] w fun e w'=>∃ b,e = .returned (.pointer (some ⟨b,0,none⟩))∧w.heap.size<b∧SrcRep b w.heap.size (src0 text) w'∧Below w.heap.size w w':=by
 have hmk:∀ w,(Instr.makeSlice 24 (.int .i64 0) (.int .i64 0)).run Tryz.prog w = .ok (.slice (some ⟨w.heap.size,0,none⟩) 0 0) (w.alloc (.cells (intV (List.replicate 0 0)).toArray 3)):=fun w=>make_ints 0 (by decide) w
 have HZ:=hide hz
 clear hz
 go_enter Tryz.func71,Tryz.ntmps71
 go_wp2_with (refine wpList_copy_splice rfl (.tmp 9) (.tmp 10) 24 24 rfl 3 Tryz.underlying24 infoInt1 _ _ _ _ _ _ rfl rfl w.heap.size 0 (intV (List.replicate 0 0)) 3 ?_ (intV []) ?_ ?_ ?_ (intV_one _) w.heap.size w ?_ (Nat.le_refl _) ?_;exact Blk.new rfl rfl;rfl;(intro h;exact absurd h (by decide));(simp[intV]);exact (Below.refl _ _).alloc (Nat.le_refl _) _;intro w2 HB2 hbe2)
 go_ret
 have hB2:Blk w2 w.heap.size 3 (intV []):=HB2.out
 exact ⟨_,rfl,hB2.lt,⟨Blk.new rfl rfl,hB2.alloc _,HZ.out,Nat.zero_le _,by show 0≤_;decide,Nat.le_refl _⟩,hbe2.alloc (Nat.le_of_lt hB2.lt) _⟩
theorem New.src {m:List UInt8} {x y:Src} {k:Int} {key:List UInt8} (h:Ref.New m x y k key) (hx:x.at_≤x.s.size):y.s=x.s∧y.plan=x.plan∧x.at_≤y.at_∧y.at_≤y.s.size∧(k=0→key.length=32):=by
 cases h using Ref.New.elim with
 | len=>exact ⟨rfl,rfl,Nat.le_refl _,hx,fun h=>absurd h (by decide)⟩
 | src _ j _ ht=>
  have L:=ht.left hx
  exact ⟨L.s,L.plan,by have:=L.at_;omega,L.size,fun h=>absurd h (by decide)⟩
 | top _ j c _ ht _ ho=>
  have L:=ht.left hx
  exact ⟨L.s,L.plan,by have:=L.at_;omega,L.size,fun h=>absurd h ho⟩
 | cut y j c _ d _ ht _ _ ha hd=>
  have L:=ht.left hx
  have L2:=ha.left L.size
  exact ⟨L2.s.trans L.s,L2.plan.trans L.plan,by have:=L.at_;have:=L2.ge;omega,L2.size,fun h=>by split at h <;> exact absurd h (by decide)⟩
 | ok y j c _ _ ht _ _ ha=>
  have L:=ht.left hx
  have L2:=ha.left L.size
  exact ⟨L2.s.trans L.s,L2.plan.trans L.plan,by have:=L.at_;have:=L2.ge;omega,L2.size,fun _=>Ref.keyL_len _ _ _⟩
namespace Ref
theorem boxI_len (body:List UInt8) (i:Nat):(boxI body i).length≤32:=by unfold boxI;rw[List.length_take];omega
end Ref
theorem ext_min (t:ByteArray) (a b:Nat):t.extract a (min b t.size)=t.extract a b:=by
 apply ba_ext
 rw[sub_list,sub_list]
 rcases Nat.le_total b t.size with h | h
 ·rw[Nat.min_eq_left h]
 ·rw[Nat.min_eq_right h,List.take_of_length_le (by rw[List.length_drop,ba_len];exact Nat.le_refl _),List.take_of_length_le (by rw[List.length_drop,ba_len];omega)]
theorem ext_void (t:ByteArray) (a b:Nat) (h:min b t.size≤a):t.extract a b=⟨#[]⟩:=by
 rw[←ext_min]
 exact ba_ext (by rw[sub_list,show min b t.size-a=0 by omega];rfl)
set_option maxHeartbeats 800000 in
theorem between_any (t:ByteArray) (a b:Nat) (w:World):
  Calls Tryz.prog 194 #[.string t,.int .i64 (a:Nat),.int .i64 (b:Nat)] w fun e w'=>e = .returned (.string (t.extract a b))∧w'=w:=by
 have j0:¬ (a:Int)<0:=by omega
 by_cases hbt:t.size<b
 ·have j1:(t.size:Int)<(b:Int):=by omega
  have HM:=hide (show t.extract a b=t.extract a t.size by rw[←ext_min,Nat.min_eq_right (by omega)])
  by_cases hab:a<t.size
  ·have j2:¬ (t.size:Int)≤(a:Int):=by omega
   have j3:(a:Int)≤(t.size:Int):=by omega
   go_enter Tryz.func194,Tryz.ntmps194
   go_wp2
   go_ret
   exact ⟨by rw[HM.out];rfl,rfl⟩
  ·have j2:(t.size:Int)≤(a:Int):=by omega
   have HV:=hide (ext_void t a b (by omega))
   clear HM
   go_enter Tryz.func194,Tryz.ntmps194
   go_wp2
   go_ret
   exact ⟨by rw[HV.out];rfl,rfl⟩
 ·have j1:¬ (t.size:Int)<(b:Int):=by omega
  by_cases hab:a<b
  ·have j2:¬ (b:Int)≤(a:Int):=by omega
   have j3:(a:Int)≤(b:Int):=by omega
   have j4:(b:Int)≤(t.size:Int):=by omega
   go_enter Tryz.func194,Tryz.ntmps194
   go_wp2
   go_ret
   exact ⟨rfl,rfl⟩
  ·have j2:(b:Int)≤(a:Int):=by omega
   have HV:=hide (ext_void t a b (by omega))
   go_enter Tryz.func194,Tryz.ntmps194
   go_wp2
   go_ret
   exact ⟨by rw[HV.out];rfl,rfl⟩
def atCells (key chunks:ByteArray) (size:Nat):List Value:=[.string key,.string chunks,.int .i64 (size:Nat)]
set_option maxRecDepth 100000 in
set_option maxHeartbeats 1600000 in
theorem atOpen_any (ab:Nat) (key chunks:ByteArray) (size n:Nat) (w:World) (hB:Blk w ab 191 (atCells key chunks size)) (hk:key.size=32) (hn:n≤35184372088832):
  Calls Tryz.prog 145 #[.pointer (some ⟨ab,0,none⟩),.int .i64 (n:Nat)] w fun e w'=>e = .returned (ansV (Ref.opnI key.data.toList chunks.data.toList n))∧Below w.heap.size w w':=by
 obtain ⟨p,hp⟩:∃ p:Nat,p=n*32:=⟨_,rfl⟩
 obtain ⟨q,hq⟩:∃ q:Nat,q=p+32:=⟨_,rfl⟩
 have t1:(n:Int)*32=(p:Int):=by omega
 have t2:(p:Int)+32=(q:Int):=by omega
 have tw1:wrap64 (p:Int)=(p:Int):=IntWalk.wrap64_in _ (by omega)
 have tw2:wrap64 (q:Int)=(q:Int):=IntWalk.wrap64_in _ (by omega)
 have tm:(n:Int)%18446744073709551616=(n:Int):=by omega
 have hxz:(chunks.extract p q).size≤32:=by rw[ByteArray.size_extract];omega
 have HBT:=hide (fun w=>between_any chunks p q w)
 have hbl:(chunks.extract p q).data.toList=Ref.boxI chunks.data.toList n:=by
  unfold Ref.boxI
  rw[sub_list,hq,Nat.add_sub_cancel_left,hp,Nat.mul_comm]
 have HOC:=hide (fun w=>openChunk_any key n (decide (chunks.size≤q)) (chunks.extract p q) w hk (by omega) (by omega))
 rw[hbl] at HOC
 have hdq:decide (chunks.size≤q)=decide (chunks.data.toList.length≤32*n+32):=by rw[ba_len,hq,hp,Nat.mul_comm]
 have HRS:=hide (show Ref.opnI key.data.toList chunks.data.toList n=Ref.opnC key.data.toList n (decide (chunks.size≤q)) (Ref.boxI chunks.data.toList n) by unfold Ref.opnI;rw[hdq])
 rw[HRS.out]
 unfold ansV at HOC ⊢
 have c0:=hB.cell (i:=0) rfl
 have c1:=hB.cell (i:=1) rfl
 generalize Ref.opnC key.data.toList n (decide (chunks.size≤q)) (Ref.boxI chunks.data.toList n)=op at *
 generalize chunks.extract p q=bx at *
 clear hB hk hn hp hq hbl hdq hxz HRS
 go_enter Tryz.func145,Tryz.ntmps145
 go_wp2_with fail
 refine (HBT.out _).mono ?_
 rintro e w1 ⟨rfl,rfl⟩
 clear HBT
 go_wp2_with fail
 refine (HOC.out _).mono ?_
 rintro e w2 ⟨rfl,be2⟩
 have B2:=hide be2
 clear HOC be2
 go_wp2
 refine bodyPost_ret (results_tmp2 rfl _ _ _) rfl ?_
 exact ⟨rfl,B2.out⟩
namespace Ref
def upTo (a b:Nat):Nat:=min (16*(a/16)+16) b
def Spn (key:List UInt8) (body:List UInt8) (b:Nat) (i0:Nat) (i1:List UInt8) (i2:List UInt8 × Int):Prop:=∀ P:Nat→List UInt8→List UInt8 × Int→Prop,(∀ (a:Nat) (acc:List UInt8),b≤a→P a acc (acc,0))→(∀ (a:Nat) (acc:List UInt8),a<b→(opnI key body (a/16)).2≠0→P a acc (acc,(opnI key body (a/16)).2))→(∀ (a:Nat) (acc:List UInt8) (r:List UInt8 × Int),a<b→(opnI key body (a/16)).2=0→P (upTo a b) (acc++((opnI key body (a/16)).1.drop (a-16*(a/16))).take (upTo a b-a)) r→P a acc r)→P i0 i1 i2
theorem Spn.done {key:List UInt8} {body:List UInt8} {b:Nat} (a:Nat) (acc:List UInt8) (h0:b≤a):Spn key body b a acc (acc,0):=fun _ c0 _ _=>c0 a acc h0
theorem Spn.bad {key:List UInt8} {body:List UInt8} {b:Nat} (a:Nat) (acc:List UInt8) (h0:a<b) (h1:(opnI key body (a/16)).2≠0):Spn key body b a acc (acc,(opnI key body (a/16)).2):=fun _ _ c1 _=>c1 a acc h0 h1
theorem Spn.more {key:List UInt8} {body:List UInt8} {b:Nat} (a:Nat) (acc:List UInt8) (r:List UInt8 × Int) (h0:a<b) (h1:(opnI key body (a/16)).2=0) (h2:Spn key body b (upTo a b) (acc++((opnI key body (a/16)).1.drop (a-16*(a/16))).take (upTo a b-a)) r):Spn key body b a acc r:=fun P c0 c1 c2=>c2 a acc r h0 h1 (h2 P c0 c1 c2)
theorem Spn.ind {key:List UInt8} {body:List UInt8} {b:Nat} {motive:∀ i0 i1 i2,Spn key body b i0 i1 i2→Prop} (done:∀ a acc h0,motive _ _ _ (Spn.done a acc h0)) (bad:∀ a acc h0 h1,motive _ _ _ (Spn.bad a acc h0 h1)) (more:∀ a acc r h0 h1 h2,motive _ _ _ h2→motive _ _ _ (Spn.more a acc r h0 h1 h2)) {i0 i1 i2} (h:Spn key body b i0 i1 i2):motive _ _ _ h:=by
 obtain ⟨_,q⟩:=h (fun i0 i1 i2=>∃ h,motive i0 i1 i2 h) (fun a acc h0=>⟨_,done a acc h0⟩) (fun a acc h0 h1=>⟨_,bad a acc h0 h1⟩) (fun a acc r h0 h1 h2=>h2.elim fun h2 q2=>⟨_,more a acc r h0 h1 h2 q2⟩)
 exact q
theorem Spn.elim {key:List UInt8} {body:List UInt8} {b:Nat} {motive:∀ i0 i1 i2,Spn key body b i0 i1 i2→Prop} (done:∀ a acc h0,motive _ _ _ (Spn.done a acc h0)) (bad:∀ a acc h0 h1,motive _ _ _ (Spn.bad a acc h0 h1)) (more:∀ a acc r h0 h1 h2,motive _ _ _ (Spn.more a acc r h0 h1 h2)) {i0 i1 i2} (h:Spn key body b i0 i1 i2):motive _ _ _ h:=Spn.ind done bad (fun a acc r h0 h1 h2 _=>more a acc r h0 h1 h2) h
theorem upTo_nums (a b:Nat) (h:a<b):a<upTo a b∧upTo a b≤b∧upTo a b≤a+16:=by unfold upTo;omega
end Ref
theorem wrapN (n:Nat) (h:n≤9223372036854775807):wrap64 (n:Int)=(n:Int):=IntWalk.wrap64_in _ (by omega)
theorem spn_nums (a b:Nat) (h:a<b) (hb:b≤35184372088832):∃ p q en x1 x2:Nat,(a:Int)/16*16=(p:Int)∧(p:Int)+16=(q:Int)∧(a:Int)-(p:Int)=(x1:Int)∧(en:Int)-(p:Int)=(x2:Int)∧wrap64 (p:Int)=(p:Int)∧wrap64 (q:Int)=(q:Int)∧wrap64 (x1:Int)=(x1:Int)∧wrap64 (x2:Int)=(x2:Int)∧Ref.upTo a b=en∧(a<en∧en≤b∧en≤a+16)∧(b<q→en=b)∧(¬ b<q→en=q)∧x2-x1=en-a∧a-16*(a/16)=x1:=by
 refine ⟨a/16*16,a/16*16+16,Ref.upTo a b,a-a/16*16,Ref.upTo a b-a/16*16,?_⟩
 have hu:=Ref.upTo_nums a b h
 have hd:Ref.upTo a b=min (16*(a/16)+16) b:=rfl
 generalize Ref.upTo a b=en at *
 refine ⟨by omega,by omega,by omega,by omega,wrapN _ (by omega),wrapN _ (by omega),wrapN _ (by omega),wrapN _ (by omega),rfl,hu,by omega,by omega,by omega,by omega⟩
theorem span_len {x a p en b:Nat} (h1:x≤a) (h2:p≤en-a) (h3:a<en) (h4:en≤b) (h5:b≤35184372088832):x+p≤140737488355328∧a<en∧en≤b∧x+p≤en∧en≤35184372088832:=by omega
def SpnR (w:World) (ab:Nat) (key chunks:ByteArray) (size a0 b:Nat) (va vo:Value) (wr:World):Prop:=∃ (a g cap:Nat) (acc:List UInt8),
 va = .int .i64 (a:Nat)∧a≤35184372088832∧acc.length≤a∧vo = .slice (some ⟨g,0,none⟩) acc.length cap∧Row wr w.heap.size 5 1 vo acc.length (u8L acc)∧Below w.heap.size w wr∧Blk wr ab 191 (atCells key chunks size)∧(∀ r,Ref.Spn key.data.toList chunks.data.toList b a acc r→Ref.Spn key.data.toList chunks.data.toList b a0 [] r)
set_option maxRecDepth 100000 in
set_option maxHeartbeats 600000 in
theorem span_any (ab:Nat) (key chunks:ByteArray) (size a0 b:Nat) (w:World) (hB:Blk w ab 191 (atCells key chunks size)) (hk:key.size=32) (ha:a0≤35184372088832) (hb:b≤35184372088832):
  Calls Tryz.prog 155 #[.pointer (some ⟨ab,0,none⟩),.int .i64 (a0:Nat),.int .i64 (b:Nat)] w fun e w'=>∃ r,Ref.Spn key.data.toList chunks.data.toList b a0 [] r∧e = .returned (ansV r)∧Below w.heap.size w w':=by
 have hal:=hB.lt
 have hbA:Below w.heap.size w (w.alloc (.cells #[] 5)):=(Below.refl _ _).alloc (Nat.le_refl _) _
 have H0:=hide (show SpnR w ab key chunks size a0 b (.int .i64 (a0:Nat)) (.slice (some ⟨w.heap.size,0,none⟩) 0 0) (w.alloc (.cells #[] 5)) from
  ⟨a0,w.heap.size,0,[],rfl,ha,Nat.zero_le _,rfl,Row.empty _ _ (heap_alloc_new _ _) _ (Nat.le_refl _),hbA,hB.below hbA hal,fun r h=>h⟩)
 clear hbA hB
 go_enter Tryz.func155,Tryz.ntmps155
 go_wp2
 go_loopw [1,8] (fun va vo wr=>SpnR w ab key chunks size a0 b va vo wr) (fun va _ _=>b-(intOf va).toNat)
 case atStart=>exact H0.out
 case round=>
  clear H0
  obtain ⟨a,g,cap,acc,rfl,ha2,hacc,rfl,hrow,hbe,hB,hmore⟩:=hrel
  have HROW:=hide hrow
  have HBE:=hide hbe
  have HB:=hide hB
  have hsz:=hbe.size
  have hgl:w.heap.size≤g∧g<wr.heap.size:=hrow.lt g rfl
  obtain ⟨ao3,cap3,e3,hd3,hd4,hcv⟩:=Row.strAny hrow
  injection e3 with e3a e3b e3c
  subst e3a
  subst e3c
  clear e3b hd3 hd4
  have HM:=hide hmore
  clear hmore hrow hbe hB
  by_cases hlt:a<b
  ·have jl:(a:Int)<(b:Int):=by omega
   obtain ⟨i,hi⟩:∃ i:Nat,i=a/16:=⟨_,rfl⟩
   have td:(a:Int).tdiv 16=(i:Int):=by rw[Int.tdiv_eq_ediv_of_nonneg (by omega)];omega
   have HOP:=hide (atOpen_any ab key chunks size i wr HB.out hk (by omega))
   have HM1:=hide (fun (h:(Ref.opnI key.data.toList chunks.data.toList i).2≠0)=>HM.out _ (Ref.Spn.bad a acc hlt (by rw[←hi];exact h)))
   have HM2:=hide (fun (h:(Ref.opnI key.data.toList chunks.data.toList i).2=0) r=>HM.out r ∘ Ref.Spn.more a acc r hlt (by rw[←hi];exact h))
   rw[←hi] at HM1 HM2
   unfold ansV at HOP
   generalize Ref.opnI key.data.toList chunks.data.toList i=op at *
   obtain ⟨ot,oe⟩:=op
   have hun:=Ref.upTo_nums a b hlt
   have hud:Ref.upTo a b=min (16*i+16) b:=by unfold Ref.upTo;rw[hi]
   have HLT:=hide hlt
   have HI:=hide hi
   have hai:((i:Nat):Int)=(a:Int)/16:=by omega
   rw[hai] at HOP
   have HAI:=hide hai
   have HUN:=hide (And.intro hun hud)
   clear HM hlt hi hun hud hai td
   go_wp2_with fail
   refine HOP.out.mono ?_
   rintro e w1 ⟨rfl,be1⟩
   have HR1:=hide (Row.after HROW.out be1)
   have HBE1:=hide (HBE.out.trans (be1.mono hsz))
   have HB1:=hide (HB.out.below be1 HB.out.lt)
   have hsz1:w.heap.size≤w1.heap.size:=HBE1.out.size
   have hcv1:=hcv
   clear HOP HROW HBE HB hcv
   rw[←HAI.out]
   by_cases hoe:oe=0
   ·subst hoe
    obtain ⟨p,q,en,x1,x2,t1,t2,t3,t4,tw1,tw2,tw3,tw4,hen,hea,hq1,hq2,hx,hxa⟩:=spn_nums a b HLT.out hb
    rw[←HAI.out] at t1
    clear HAI tw1 tw2 tw3 tw4
    have HBT:=hide (fun w=>between_any ⟨ot.toArray⟩ x1 x2 w)
    obtain ⟨pc,hpc⟩:∃ x,(⟨ot.toArray⟩:ByteArray).extract x1 x2=x:=⟨_,rfl⟩
    rw[hpc] at HBT
    have hpz:pc.size≤en-a:=by
     rw[←hpc,ByteArray.size_extract,←hx]
     exact Nat.sub_le_sub_right (Nat.min_le_left _ _) _
    have hpl:pc.data.toList=(ot.drop (a-16*i)).take (en-a):=by
     rw[←hpc,sub_list,hx,HI.out,hxa]
    obtain ⟨hN2,hEN⟩:=span_len hacc hpz hea.1 hea.2.1 hb
    have HPL:=hide hpl
    have HNX:=hide (HM2.out rfl)
    rw[hen,HI.out,←HI.out] at HNX
    change Hid (∀ r,Ref.Spn key.data.toList chunks.data.toList b en (acc++(ot.drop (a-16*i)).take (en-a)) r→_) at HNX
    rw[←hpl] at HNX
    have HEN:=hide hEN
    clear hpl hpc HM1 HM2 hcv1 hEN
    generalize (⟨ot.toArray⟩:ByteArray)=tb at *
    by_cases hqb:b<q
    ·have jq:(b:Int)<(q:Int):=Int.ofNat_lt.2 hqb
     obtain rfl:=hq1 hqb
     clear HUN hen hx hxa HI hpz hea hq1 hq2
     go_wp2_with fail
     refine (HBT.out _).mono ?_
     rintro e w2 ⟨rfl,rfl⟩
     clear HBT
     go_wp2_with (at_builtin;refine wpList_append_text rfl (.tmp 48) (.tmp 49) rfl w.heap.size g cap acc.length _ rfl HR1.out pc rfl hN2 hsz1 ?_;intro g5 cap5 w5 hr5 hg5)
     go_roundw
     case rel=>
      obtain ⟨k1,k2,k3,k4⟩:=HEN.out
      have hl:(acc++pc.data.toList).length=acc.length+pc.size:=by rw[List.length_append,ba_len]
      refine ⟨en,g5,cap5,acc++pc.data.toList,rfl,k4,by rw[hl];exact k3,by rw[hl],by rw[hl];exact hr5,HBE1.out.trans (RowKit.Below.of_grown hg5 hgl.1 HBE1.out.size),HB1.out.grown hg5 (fun e=>by injection e with e;omega),fun r h=>HNX.out r h⟩
     case measure=>have:=HEN.out;simp[intOf];omega
    ·have jq:¬ (b:Int)<(q:Int):=fun h=>hqb (Int.ofNat_lt.1 h)
     obtain rfl:=hq2 hqb
     clear HUN hen hx hxa HI hpz hea hq1 hq2
     go_wp2_with fail
     refine (HBT.out _).mono ?_
     rintro e w2 ⟨rfl,rfl⟩
     clear HBT
     go_wp2_with (at_builtin;refine wpList_append_text rfl (.tmp 48) (.tmp 49) rfl w.heap.size g cap acc.length _ rfl HR1.out pc rfl hN2 hsz1 ?_;intro g5 cap5 w5 hr5 hg5)
     go_roundw
     case rel=>
      obtain ⟨k1,k2,k3,k4⟩:=HEN.out
      have hl:(acc++pc.data.toList).length=acc.length+pc.size:=by rw[List.length_append,ba_len]
      refine ⟨en,g5,cap5,acc++pc.data.toList,rfl,k4,by rw[hl];exact k3,by rw[hl],by rw[hl];exact hr5,HBE1.out.trans (RowKit.Below.of_grown hg5 hgl.1 HBE1.out.size),HB1.out.grown hg5 (fun e=>by injection e with e;omega),fun r h=>HNX.out r h⟩
     case measure=>have:=HEN.out;simp[intOf];omega
   ·have z1:(oe != 0)=true:=by rw[bne_iff_ne];exact hoe
    have HRS:=hide (HM1.out hoe)
    have hcv2:=(Row.strAny HR1.out)
    obtain ⟨ao4,cap4,e4,hd5,hd6,hcv4⟩:=hcv2
    injection e4 with e4a e4b e4c
    subst e4a
    subst e4c
    generalize (⟨ot.toArray⟩:ByteArray)=tb at *
    clear HM1 HM2 hoe HUN HI hcv1 e4b hd5 hd6
    go_wp2
    refine bodyPost_ret (results_tmp2 rfl _ _ _) rfl ?_
    exact ⟨(acc,oe),HRS.out,rfl,HBE1.out⟩
  ·have jl:¬ (a:Int)<(b:Int):=by omega
   have HRS:=hide (HM.out _ (Ref.Spn.done a acc (by omega)))
   clear HM hlt
   go_wp2
   refine bodyPost_ret (results_tmp2 rfl _ _ _) rfl ?_
   exact ⟨acc,0,HRS.out,rfl,HBE.out⟩
def AtN (m:List UInt8) (file:ByteArray) (i0:Int) (i1:List UInt8) (i2:ByteArray) (i3:Nat):Prop:=∀ P:Int→List UInt8→ByteArray→Nat→Prop,(∀ (y:Src) (k:Int) (key:List UInt8),Ref.New m (src0 file) y k key→k≠0→P k [] ⟨#[]⟩ 0)→(∀ (y:Src) (key:List UInt8),Ref.New m (src0 file) y 0 key→file.size≤y.at_→P 10 [] ⟨#[]⟩ 0)→(∀ (y:Src) (key:List UInt8),Ref.New m (src0 file) y 0 key→y.at_<file.size→(Ref.opnI key (file.extract y.at_ file.size).data.toList ((file.size-y.at_-1)/32)).2≠0→P (Ref.opnI key (file.extract y.at_ file.size).data.toList ((file.size-y.at_-1)/32)).2 [] ⟨#[]⟩ 0)→(∀ (y:Src) (key:List UInt8),Ref.New m (src0 file) y 0 key→y.at_<file.size→(Ref.opnI key (file.extract y.at_ file.size).data.toList ((file.size-y.at_-1)/32)).2=0→P 0 key (file.extract y.at_ file.size) (16*((file.size-y.at_-1)/32)+(Ref.opnI key (file.extract y.at_ file.size).data.toList ((file.size-y.at_-1)/32)).1.length))→P i0 i1 i2 i3
theorem AtN.bad {m:List UInt8} {file:ByteArray} (y:Src) (k:Int) (key:List UInt8) (h0:Ref.New m (src0 file) y k key) (h1:k≠0):AtN m file k [] ⟨#[]⟩ 0:=fun _ c0 _ _ _=>c0 y k key h0 h1
theorem AtN.cut {m:List UInt8} {file:ByteArray} (y:Src) (key:List UInt8) (h0:Ref.New m (src0 file) y 0 key) (h1:file.size≤y.at_):AtN m file 10 [] ⟨#[]⟩ 0:=fun _ _ c1 _ _=>c1 y key h0 h1
theorem AtN.last {m:List UInt8} {file:ByteArray} (y:Src) (key:List UInt8) (h0:Ref.New m (src0 file) y 0 key) (h1:y.at_<file.size) (h2:(Ref.opnI key (file.extract y.at_ file.size).data.toList ((file.size-y.at_-1)/32)).2≠0):AtN m file (Ref.opnI key (file.extract y.at_ file.size).data.toList ((file.size-y.at_-1)/32)).2 [] ⟨#[]⟩ 0:=fun _ _ _ c2 _=>c2 y key h0 h1 h2
theorem AtN.ok {m:List UInt8} {file:ByteArray} (y:Src) (key:List UInt8) (h0:Ref.New m (src0 file) y 0 key) (h1:y.at_<file.size) (h2:(Ref.opnI key (file.extract y.at_ file.size).data.toList ((file.size-y.at_-1)/32)).2=0):AtN m file 0 key (file.extract y.at_ file.size) (16*((file.size-y.at_-1)/32)+(Ref.opnI key (file.extract y.at_ file.size).data.toList ((file.size-y.at_-1)/32)).1.length):=fun _ _ _ _ c3=>c3 y key h0 h1 h2
theorem AtN.elim {m:List UInt8} {file:ByteArray} {motive:∀ i0 i1 i2 i3,AtN m file i0 i1 i2 i3→Prop} (bad:∀ y k key h0 h1,motive _ _ _ _ (AtN.bad y k key h0 h1)) (cut:∀ y key h0 h1,motive _ _ _ _ (AtN.cut y key h0 h1)) (last:∀ y key h0 h1 h2,motive _ _ _ _ (AtN.last y key h0 h1 h2)) (ok:∀ y key h0 h1 h2,motive _ _ _ _ (AtN.ok y key h0 h1 h2)) {i0 i1 i2 i3} (h:AtN m file i0 i1 i2 i3):motive _ _ _ _ h:=by
 obtain ⟨_,q⟩:=h (fun i0 i1 i2 i3=>∃ h,motive i0 i1 i2 i3 h) (fun y k key h0 h1=>⟨_,bad y k key h0 h1⟩) (fun y key h0 h1=>⟨_,cut y key h0 h1⟩) (fun y key h0 h1 h2=>⟨_,last y key h0 h1 h2⟩) (fun y key h0 h1 h2=>⟨_,ok y key h0 h1 h2⟩)
 exact q
theorem opnI_len (key body:List UInt8) (i:Nat):(Ref.opnI key body i).1.length≤32:=by
 unfold Ref.opnI
 have hb:=Ref.boxI_len body i
 rcases Ref.opnC_cases key i (decide (body.length≤32*i+32)) (Ref.boxI body i) with ⟨_,h,_⟩ | ⟨_,h⟩
 ·omega
 ·rw[h];exact Nat.zero_le _
set_option maxHeartbeats 400000 in
theorem srcPlace_any (b g:Nat) (x:Src) (w:World) (h:SrcRep b g x w):
  Calls Tryz.prog 135 #[.pointer (some ⟨b,0,none⟩)] w fun e w'=>e = .returned (.int .i64 (x.at_:Nat))∧w'=w:=by
 have c:w.cell? ⟨b,1,none⟩=some (.int .i64 ((x.at_:Nat):Int)):=h.hb.cell (i:=1) rfl
 clear h
 go_enter Tryz.func135,Tryz.ntmps135
 go_wp2
 go_ret
 exact ⟨rfl,rfl⟩
set_option maxHeartbeats 400000 in
theorem atSize_any (ab:Nat) (key ch:ByteArray) (size:Nat) (w:World) (hB:Blk w ab 191 (atCells key ch size)):
  Calls Tryz.prog 88 #[.pointer (some ⟨ab,0,none⟩)] w fun e w'=>e = .returned (.int .i64 (size:Nat))∧w'=w:=by
 have c:=hB.cell (i:=2) rfl
 clear hB
 go_enter Tryz.func88,Tryz.ntmps88
 go_wp2
 go_ret
 exact ⟨rfl,rfl⟩
def AtRd (key:List UInt8) (body:List UInt8) (size:Nat) (n:Int) (off:Int) (i0:List UInt8 × Int):Prop:=∀ P:List UInt8 × Int→Prop,(n<0∨off<0→P ([],2))→(0≤n→0≤off→(size:Int)<off→P ([],13))→(∀ (r:List UInt8 × Int),0≤n→0≤off→off+n≤(size:Int)→Ref.Spn key body (off.toNat+n.toNat) off.toNat [] r→P r)→(∀ (r:List UInt8 × Int),0≤n→0≤off→off≤(size:Int)→(size:Int)<off+n→Ref.Spn key body size off.toNat [] r→P (if r.2≠0 then r else (r.1,13)))→P i0
theorem AtRd.arg {key:List UInt8} {body:List UInt8} {size:Nat} {n:Int} {off:Int} (h0:n<0∨off<0):AtRd key body size n off ([],2):=fun _ c0 _ _ _=>c0 h0
theorem AtRd.over {key:List UInt8} {body:List UInt8} {size:Nat} {n:Int} {off:Int} (h0:0≤n) (h1:0≤off) (h2:(size:Int)<off):AtRd key body size n off ([],13):=fun _ _ c1 _ _=>c1 h0 h1 h2
theorem AtRd.all {key:List UInt8} {body:List UInt8} {size:Nat} {n:Int} {off:Int} (r:List UInt8 × Int) (h0:0≤n) (h1:0≤off) (h2:off+n≤(size:Int)) (h3:Ref.Spn key body (off.toNat+n.toNat) off.toNat [] r):AtRd key body size n off r:=fun _ _ _ c2 _=>c2 r h0 h1 h2 h3
theorem AtRd.some {key:List UInt8} {body:List UInt8} {size:Nat} {n:Int} {off:Int} (r:List UInt8 × Int) (h0:0≤n) (h1:0≤off) (h2:off≤(size:Int)) (h3:(size:Int)<off+n) (h4:Ref.Spn key body size off.toNat [] r):AtRd key body size n off (if r.2≠0 then r else (r.1,13)):=fun _ _ _ _ c3=>c3 r h0 h1 h2 h3 h4
theorem AtRd.elim {key:List UInt8} {body:List UInt8} {size:Nat} {n:Int} {off:Int} {motive:∀ i0,AtRd key body size n off i0→Prop} (arg:∀ h0,motive _ (AtRd.arg h0)) (over:∀ h0 h1 h2,motive _ (AtRd.over h0 h1 h2)) (all:∀ r h0 h1 h2 h3,motive _ (AtRd.all r h0 h1 h2 h3)) (some:∀ r h0 h1 h2 h3 h4,motive _ (AtRd.some r h0 h1 h2 h3 h4)) {i0} (h:AtRd key body size n off i0):motive _ h:=by
 obtain ⟨_,q⟩:=h (fun i0=>∃ h,motive i0 h) (fun h0=>⟨_,arg h0⟩) (fun h0 h1 h2=>⟨_,over h0 h1 h2⟩) (fun r h0 h1 h2 h3=>⟨_,all r h0 h1 h2 h3⟩) (fun r h0 h1 h2 h3 h4=>⟨_,some r h0 h1 h2 h3 h4⟩)
 exact q
set_option maxRecDepth 100000 in
set_option maxHeartbeats 1600000 in
theorem atRead_any (ab:Nat) (key ch:ByteArray) (size:Nat) (n off:Int) (w:World) (hB:Blk w ab 191 (atCells key ch size)) (hk:key.size=32) (hsz:size≤1099511627776) (n1 : -9223372036854775808≤n) (n2:n≤9223372036854775807) (o1 : -9223372036854775808≤off) (o2:off≤9223372036854775807):
  Calls Tryz.prog 86 #[.pointer (some ⟨ab,0,none⟩),.int .i64 n,.int .i64 off] w fun e w'=>∃ r,AtRd key.data.toList ch.data.toList size n off r∧e = .returned (ansV r)∧Below w.heap.size w w':=by
 by_cases hn:n<0
 ·have HR:=hide (AtRd.arg (key:=key.data.toList) (body:=ch.data.toList) (size:=size) (n:=n) (off:=off) (.inl hn))
  clear hB hk
  go_enter Tryz.func86,Tryz.ntmps86
  go_wp2
  refine bodyPost_ret (results_tmp2 rfl _ _ _) rfl ?_
  first | exact ⟨([],2),HR.out,rfl,Below.refl _ _⟩ | exact ⟨[],2,HR.out,rfl,Below.refl _ _⟩
 ·have zn:decide (n<0)=false:=decide_eq_false hn
  by_cases ho:off<0
  ·have HR:=hide (AtRd.arg (key:=key.data.toList) (body:=ch.data.toList) (size:=size) (n:=n) (off:=off) (.inr ho))
   clear hB hk
   go_enter Tryz.func86,Tryz.ntmps86
   go_wp2
   refine bodyPost_ret (results_tmp2 rfl _ _ _) rfl ?_
   first | exact ⟨([],2),HR.out,rfl,Below.refl _ _⟩ | exact ⟨[],2,HR.out,rfl,Below.refl _ _⟩
  ·have zo:decide (off<0)=false:=decide_eq_false ho
   obtain ⟨N,rfl⟩:∃ N:Nat,n=(N:Int):=⟨n.toNat,by omega⟩
   obtain ⟨O,rfl⟩:∃ O:Nat,off=(O:Int):=⟨off.toNat,by omega⟩
   have c2:=hB.cell (i:=2) rfl
   by_cases h1:size<O
   ·have j1:(size:Int)<(O:Int):=by omega
    have HR:=hide (AtRd.over (key:=key.data.toList) (body:=ch.data.toList) (size:=size) (n:=(N:Int)) (off:=(O:Int)) (by omega) (by omega) j1)
    clear hB hk n1 n2 o1 o2 hn ho
    go_enter Tryz.func86,Tryz.ntmps86
    go_wp2
    refine bodyPost_ret (results_tmp2 rfl _ _ _) rfl ?_
    first | exact ⟨([],13),HR.out,rfl,Below.refl _ _⟩ | exact ⟨[],13,HR.out,rfl,Below.refl _ _⟩
   ·have j1:¬ (size:Int)<(O:Int):=by omega
    obtain ⟨L,hL⟩:∃ L:Nat,L=size-O:=⟨_,rfl⟩
    have tL:(size:Int)-(O:Int)=(L:Int):=by omega
    by_cases h2:N≤L
    ·have j2:(N:Int)≤(L:Int):=by omega
     obtain ⟨E,hE⟩:∃ E:Nat,E=O+N:=⟨_,rfl⟩
     have tE:(O:Int)+(N:Int)=(E:Int):=by omega
     have HS:=hide (span_any ab key ch size O E w hB hk (by omega) (by omega))
     have HR:=hide (fun r (h:Ref.Spn key.data.toList ch.data.toList E O [] r)=>AtRd.all (key:=key.data.toList) (body:=ch.data.toList) (size:=size) (n:=(N:Int)) (off:=(O:Int)) r (by omega) (by omega) (by omega) (by rw[Int.toNat_natCast,Int.toNat_natCast,←hE];exact h))
     clear hB hk n1 n2 o1 o2 hn ho hL hE h2 h1
     go_enter Tryz.func86,Tryz.ntmps86
     go_wp2_with fail
     refine HS.out.mono ?_
     rintro e w1 ⟨r,hr,rfl,hb1⟩
     have H1:=hide (HR.out r hr)
     have B1:=hide hb1
     unfold ansV
     clear hr hb1 HS HR
     obtain ⟨rt,re⟩:=r
     go_wp2
     refine bodyPost_ret (results_tmp2 rfl _ _ _) rfl ?_
     first | exact ⟨(rt,re),H1.out,rfl,B1.out⟩ | exact ⟨rt,re,H1.out,rfl,B1.out⟩
    ·have j2:¬ (N:Int)≤(L:Int):=by omega
     have HS:=hide (span_any ab key ch size O size w hB hk (by omega) (by omega))
     have HR:=hide (fun r (h:Ref.Spn key.data.toList ch.data.toList size O [] r)=>AtRd.some (key:=key.data.toList) (body:=ch.data.toList) (size:=size) (n:=(N:Int)) (off:=(O:Int)) r (by omega) (by omega) (by omega) (by omega) (by rw[Int.toNat_natCast];exact h))
     clear hB hk n1 n2 o1 o2 hn ho hL h2 h1
     go_enter Tryz.func86,Tryz.ntmps86
     go_wp2_with fail
     refine HS.out.mono ?_
     rintro e w1 ⟨r,hr,rfl,hb1⟩
     have H1:=hide (HR.out r hr)
     have B1:=hide hb1
     unfold ansV
     clear hr hb1 HS HR
     obtain ⟨rt,re⟩:=r
     by_cases hre:re=0
     ·subst hre
      go_wp2
      refine bodyPost_ret (results_tmp2 rfl _ _ _) rfl ?_
      first | exact ⟨(rt,13),(by have h:=H1.out;simpa using h),rfl,B1.out⟩ | exact ⟨rt,13,(by have h:=H1.out;simpa using h),rfl,B1.out⟩
     ·have z1:(re != 0)=true:=by rw[bne_iff_ne];exact hre
      have HH:=hide hre
      clear hre
      go_wp2
      refine bodyPost_ret (results_tmp2 rfl _ _ _) rfl ?_
      first | exact ⟨(rt,re),(by have h:=H1.out;rw[if_pos HH.out] at h;exact h),rfl,B1.out⟩ | exact ⟨rt,re,(by have h:=H1.out;rw[if_pos HH.out] at h;exact h),rfl,B1.out⟩
def NewAtP (m file:ByteArray) (w:World) (e:Ending) (w':World):Prop:=∃ k key ch size pv,AtN m.data.toList file k key ch size∧e = .returned (.tuple #[pv,.int .i64 k])∧(k≠0→pv = .pointer none)∧(k=0→∃ ab,w.heap.size≤ab∧pv = .pointer (some ⟨ab,0,none⟩)∧Blk w' ab 191 (atCells ⟨key.toArray⟩ ch size)∧key.length=32∧size≤file.size+64)∧Below w.heap.size w w'
theorem at_nums (F A:Nat) (h:A<F) (hF:F≤1099511627776):∃ C D i p:Nat,C=F-A∧(C:Int)-1=(D:Int)∧(D:Int).tdiv 32=(i:Int)∧(D:Int)/32=(i:Int)∧i=(F-A-1)/32∧(i:Int)*16=(p:Int)∧p=16*i∧i≤35184372088832∧p≤F:=by
 refine ⟨F-A,F-A-1,(F-A-1)/32,16*((F-A-1)/32),rfl,by omega,?_,by omega,rfl,by omega,rfl,by omega,by omega⟩
 rw[Int.tdiv_eq_ediv_of_nonneg (by omega)]
 omega
set_option maxRecDepth 100000 in
set_option maxHeartbeats 1600000 in
theorem newAt_any (m file:ByteArray) (w:World) (ht:Tabs w) (hz:file.size≤1099511627776):
  Calls Tryz.prog 78 #[.string m,.string file] w (NewAtP m file w):=by
 have h2:=ht.two
 have HT:=hide ht
 have HSO:=hide (sourceOf_nil file w hz)
 have HNR:=hide (fun b (w1:World) t s hb=>newReader_any m b w.heap.size (src0 file) w1 t s hb)
 clear ht
 go_enter Tryz.func78,Tryz.ntmps78
 go_wp2_with fail
 refine HSO.out.mono ?_
 rintro e w1 ⟨b,rfl,hb,hS1,hb1⟩
 have hbl1:b<w1.heap.size:=hS1.hb.lt
 have HN1:=hide (HNR.out b w1 (HT.out.after hb1) hS1 (by omega))
 have B1:=hide hb1
 clear HSO HNR hS1 hb1 HT
 go_wp2_with fail
 refine HN1.out.mono ?_
 rintro e w2 ⟨y,k,key,pv,hN,rfl,hk1,hk2,hS2,hG2⟩
 have hnf:=New.src hN (Nat.zero_le _)
 have HNW:=hide hN
 have B2:=hide (B1.out.trans (RowKit.Below.of_grown hG2 (Nat.le_of_lt hb) B1.out.size))
 have hsz2:=B2.out.size
 have HPL:=hide (srcPlace_any b w.heap.size y w2 hS2)
 have hys:y.s=file:=hnf.1
 have hya:=hnf.2.2.2.1
 rw[hys] at hya
 clear HN1 hN hS2 hG2 B1
 by_cases hk:k=0
 ·subst hk
  obtain ⟨rb,hrb,rfl,hR⟩:=hk2 rfl
  have hkl:=hnf.2.2.2.2 rfl
  have HKL:=hide hkl
  have c1:w2.cell? ⟨rb,1,none⟩=some (.string ⟨key.toArray⟩):=hR.hb.cell (i:=1) rfl
  obtain ⟨F,hF⟩:∃ F:Nat,file.size=F:=⟨_,rfl⟩
  obtain ⟨A,hA⟩:∃ A:Nat,y.at_=A:=⟨_,rfl⟩
  rw[hF,hA] at hya
  rw[hA] at HPL
  have HFA:=hide (And.intro hF hA)
  clear hk1 hk2 hR hnf hys hkl
  by_cases hlt:A<F
  ·have j1:¬ (F:Int)≤(A:Int):=by omega
   have j2:(A:Int)≤(F:Int):=by omega
   obtain ⟨C,D,i,p,hC,tD,ti,ti2,hi,tp,hp,hib,hpF⟩:=at_nums F A hlt (by omega)
   have HOK:=hide (AtN.ok (m:=m.data.toList) (file:=file) y key HNW.out (by rw[hA,hF];exact hlt))
   have HLA:=hide (AtN.last (m:=m.data.toList) (file:=file) y key HNW.out (by rw[hA,hF];exact hlt))
   rw[hA,hF,←hi] at HOK HLA
   obtain ⟨ch,hch⟩:∃ x,file.extract A F=x:=⟨_,rfl⟩
   have hcs:ch.size=C:=by rw[←hch,ByteArray.size_extract];omega
   rw[hch] at HOK HLA
   have hkz:(⟨key.toArray⟩:ByteArray).size=32:=by rw[two_size,HKL.out]
   have hol:=opnI_len key ch.data.toList i
   have HAO:=hide (fun ab w' h=>atOpen_any ab ⟨key.toArray⟩ ch 0 i w' h hkz hib)
   rw[two_toList] at HAO
   unfold ansV at HAO
   generalize Ref.opnI key ch.data.toList i=op at *
   obtain ⟨ot,oe⟩:=op
   have hfn:=(Below.refl w2.heap.size w2)
   clear hfn
   generalize hkb:(⟨key.toArray⟩:ByteArray)=kb at *
   have HP:=hide hp
   have HI:=hide (And.intro hi hC)
   clear hi hp hC hlt
   go_wp2_with fail
   refine HPL.out.mono ?_
   rintro e w3 ⟨rfl,rfl⟩
   clear HPL
   go_wp2
   go_region
   have hB4:Blk (w3.alloc (.cells #[.string kb,.string ch,.int .i64 0] 191)).drew w3.heap.size 191 (atCells kb ch 0):=Blk.drewN (Blk.new rfl rfl) 1
   have hbA:Below w3.heap.size w3 (w3.alloc (.cells #[.string kb,.string ch,.int .i64 0] 191)).drew:=below_drewN ((Below.refl _ _).alloc (Nat.le_refl _) _) 1
   have HO4:=hide (HAO.out _ _ hB4)
   have c41:=hB4.cell (i:=1) rfl
   have HB4:=hide hB4
   have BE4:=hide (B2.out.trans (hbA.mono hsz2))
   obtain ⟨w4,hw4⟩:∃ x,(w3.alloc (.cells #[.string kb,.string ch,.int .i64 0] 191)).drew=x:=⟨_,rfl⟩
   rw[hw4] at HO4 HB4 BE4 c41
   clear HAO hB4 hbA c1
   go_wp2_with fail
   refine HO4.out.mono ?_
   rintro e w5 ⟨rfl,hb5⟩
   have HB5:=hide (HB4.out.below hb5 HB4.out.lt)
   have BE5:=hide (BE4.out.trans (hb5.mono BE4.out.size))
   clear hb5 HO4 HB4 BE4 hw4 c41
   by_cases hoe:oe=0
   ·subst hoe
    have HRS:=hide (HOK.out (by simp))
    have hotz:(⟨ot.toArray⟩:ByteArray).size=ot.length:=two_size _
    have hol2:ot.length≤32:=hol
    generalize (⟨ot.toArray⟩:ByteArray)=bt at *
    obtain ⟨S,hS⟩:∃ S:Nat,S=p+bt.size:=⟨_,rfl⟩
    have tS:(p:Int)+(bt.size:Int)=(S:Int):=by omega
    have HSS:=hide (show 16*i+ot.length=S by have:=HP.out;omega)
    have HSB:=hide (show S≤file.size+64 by have:=HFA.out.1;omega)
    have hSb:S≤2199023255552:=by omega
    have bzb:bt.size≤32:=by omega
    have c52:=HB5.out.cell (i:=2) rfl
    have f5:=HB5.out.frozen
    have HB6:=hide (show Blk (w5.setCell ⟨w3.heap.size,2,none⟩ (.int .i64 (S:Nat))) w3.heap.size 191 (atCells kb ch S) from HB5.out.setCell_same 2 _)
    have BE6:=hide (BE5.out.setCell (p:=⟨w3.heap.size,2,none⟩) hsz2 (.int .i64 (S:Nat)))
    clear HOK HLA hS hotz hol hol2 HB5 BE5
    go_wp2
    refine bodyPost_ret (results_tmp2 rfl _ _ _) rfl ?_
    refine ⟨0,key,ch,S,_,(by have h:=HRS.out;rw[HSS.out] at h;exact h),rfl,fun h=>absurd rfl h,fun _=>⟨w3.heap.size,hsz2,rfl,?_,HKL.out,HSB.out⟩,BE6.out⟩
    rw[hkb]
    exact HB6.out
   ·have z1:(oe != 0)=true:=by rw[bne_iff_ne];exact hoe
    have HRS:=hide (HLA.out hoe)
    have HH:=hide hoe
    generalize (⟨ot.toArray⟩:ByteArray)=bt at *
    clear HOK HLA hoe hol HB5
    go_wp2
    refine bodyPost_ret (results_tmp2 rfl _ _ _) rfl ?_
    exact ⟨oe,[],⟨#[]⟩,0,_,HRS.out,rfl,fun _=>rfl,fun h=>absurd h HH.out,BE5.out⟩
  ·have j1:(F:Int)≤(A:Int):=by omega
   have HCU:=hide (AtN.cut (m:=m.data.toList) (file:=file) y key HNW.out (by rw[hA,hF];omega))
   clear hlt HNW
   go_wp2_with fail
   refine HPL.out.mono ?_
   rintro e w3 ⟨rfl,rfl⟩
   clear HPL
   go_wp2
   refine bodyPost_ret (results_tmp2 rfl _ _ _) rfl ?_
   exact ⟨10,[],⟨#[]⟩,0,_,HCU.out,rfl,fun _=>rfl,fun h=>absurd h (by decide),B2.out⟩
 ·have z1:(k != 0)=true:=by rw[bne_iff_ne];exact hk
  obtain rfl:=hk1 hk
  have HDB:=hide (AtN.bad (m:=m.data.toList) (file:=file) y k key HNW.out hk)
  have HK:=hide hk
  clear hk hk1 hk2 HNW hnf hys hya HPL
  go_wp2
  refine bodyPost_ret (results_tmp2 rfl _ _ _) rfl ?_
  exact ⟨k,[],⟨#[]⟩,0,_,HDB.out,rfl,fun _=>rfl,fun h=>absurd h HK.out,B2.out⟩
theorem getD_take (T:List UInt8) {j i:Nat} (h:i<j):(T.take j).getD i 0=T.getD i 0:=by
 rw[List.getD_eq_getElem?_getD,List.getElem?_take,if_pos h,←List.getD_eq_getElem?_getD]
theorem Hd.line_take (T:List UInt8) (j:Nat):∀ i,i≤j→Hd.lineAt (T.take j) i=Hd.lineAt T i
 | 0,_=>rfl
 | i+1,h=>by
  show (if (T.take j).getD i 0=10 then i+1 else Hd.lineAt (T.take j) i)=(if T.getD i 0=10 then i+1 else Hd.lineAt T i)
  rw[Hd.line_take T j i (by omega),getD_take T (by omega)]
theorem Hd.whole_take (T:List UInt8) (m:Nat):Hd.wholeAt (T.take (m+1)) m↔Hd.wholeAt T m:=by
 unfold Hd.wholeAt
 rw[Hd.line_take T (m+1) m (by omega),getD_take T (by omega)]
 have hle:=Hd.lineAt_le T m
 constructor
 ·rintro ⟨h1,h2,h3⟩
  rw[List.drop_take,List.take_take,Nat.min_eq_left (by omega)] at h3
  exact ⟨h1,h2,h3⟩
 ·rintro ⟨h1,h2,h3⟩
  refine ⟨h1,h2,?_⟩
  rw[List.drop_take,List.take_take,Nat.min_eq_left (by omega)]
  exact h3
theorem Src.Top.ends {T:List UInt8} {x y:Src} {k j c:Nat} (h:Src.Top T x k y j c):k≤j∧((k<j∧Hd.wholeAt T (j-1)∧∀ i,k≤i→i+1<j→¬ Hd.wholeAt T i)∨((∀ i,k≤i→i<j→¬ Hd.wholeAt T i)∧(284≤j∨c≠0))):=by
 induction h using Src.Top.ind with
 | full x k hk=>exact ⟨Nat.le_refl _,.inr ⟨fun i h1 h2=>by omega,.inl hk⟩⟩
 | fail x y k hk ha=>exact ⟨Nat.le_refl _,.inr ⟨fun i h1 h2=>by omega,.inr (by decide)⟩⟩
 | over x y k hk ha=>exact ⟨Nat.le_refl _,.inr ⟨fun i h1 h2=>by omega,.inr (by decide)⟩⟩
 | hit x y k hk ha hw=>exact ⟨Nat.le_succ _,.inl ⟨Nat.lt_succ_self _,by rw[Nat.add_sub_cancel];exact hw,fun i h1 h2=>by omega⟩⟩
 | more x y z k j c hk ha hw ht ih=>
  obtain ⟨i1,i2⟩:=ih
  refine ⟨by omega,?_⟩
  rcases i2 with ⟨a,b,d⟩ | ⟨a,b⟩
  ·refine .inl ⟨by omega,b,fun i h1 h2=>?_⟩
   rcases Nat.eq_or_lt_of_le h1 with e | e
   ·subst e;exact hw
   ·exact d i e h2
  ·refine .inr ⟨fun i h1 h2=>?_,b⟩
   rcases Nat.eq_or_lt_of_le h1 with e | e
   ·subst e;exact hw
   ·exact a i e h2
theorem Src.Top.calm2 {T:List UInt8} {x y:Src} {k j c:Nat} (h:Src.Top T x k y j c) (hc:Src.Calm x.plan) (hx:x.at_≤x.s.size):c≠2:=by
 induction h using Src.Top.ind with
 | full=>decide
 | fail x y k hk ha=>exact absurd rfl (ha.calm hc)
 | over=>decide
 | hit=>decide
 | more x y z k j c hk ha hw ht ih=>exact ih (by rw[(ha.left hx).plan];exact hc) (ha.left hx).size
def SplO (T:List UInt8) (j:Nat):Prop:=(∃ k,k<min T.length 284∧Hd.wholeAt T k∧Hd.noneTo T k∧j=k+1)∨(Hd.noneTo T (min T.length 284)∧j=min T.length 284)
theorem SplO.det {T:List UInt8} {i j:Nat} (h:SplO T i) (h2:SplO T j):i=j:=by
 rcases h with ⟨k,a1,a2,a3,rfl⟩ | ⟨a1,rfl⟩
 ·rcases h2 with ⟨l,b1,b2,b3,rfl⟩ | ⟨b1,rfl⟩
  ·rcases Nat.lt_trichotomy k l with q | q | q
   ·exact absurd a2 (b3 k q)
   ·rw[q]
   ·exact absurd b2 (a3 l q)
  ·exact absurd a2 (b1 k a1)
 ·rcases h2 with ⟨l,b1,b2,b3,rfl⟩ | ⟨b1,rfl⟩
  ·exact absurd b2 (a1 l b1)
  ·rfl
theorem top_split {file:ByteArray} {y:Src} {j c:Nat} (h:Src.Top (src0 file).rest (src0 file) 0 y j c):SplO file.data.toList j∧c≠2∧y.at_=j∧y.s=file∧j≤file.size:=by
 have hr:(src0 file).rest=file.data.toList:=rfl
 have L:=h.left (Nat.zero_le _)
 have hat:y.at_=0+(j-0):=L.at_
 have hys:y.s=file:=L.s
 have hsz:=L.size
 rw[hys] at hsz
 have hj:=L.le (Nat.zero_le _)
 have htl:file.data.toList.length=file.size:=ba_len _
 have hc2:c≠2:=h.calm2 (src0_calm file) (Nat.zero_le _)
 rw[hr] at h
 refine ⟨?_,hc2,by omega,hys,by omega⟩
 obtain ⟨_,hE⟩:=h.ends
 rcases hE with ⟨a,b,d⟩ | ⟨a,b⟩
 ·exact .inl ⟨j-1,by omega,b,fun i hi=>d i (Nat.zero_le _) (by omega),by omega⟩
 ·have e:j=min file.data.toList.length 284:=by
   rcases b with b | b
   ·omega
   ·have hc1:c=1:=by have:=L.code;omega
    have:=(L.over hc1).1
    have h3:y.at_=file.size:=this
    omega
  exact .inr ⟨fun i hi=>a i (Nat.zero_le _) (by omega),e⟩
set_option maxRecDepth 100000 in
set_option maxHeartbeats 1600000 in
theorem refSplit_a (file:ByteArray) (w:World) (hf:file.size≤1099511627776) (h284:284<file.size):
  Calls Tryz.prog 146 #[.string file] w fun e w'=>∃ j,SplO file.data.toList j∧e = .returned (.tuple #[.string (file.extract 0 j),.string (file.extract j file.size)])∧Below w.heap.size w w':=by
 obtain ⟨N,hN⟩:∃ N:Nat,file.size=N:=⟨_,rfl⟩
 obtain ⟨n,hn⟩:∃ n:Nat,min N 284=n:=⟨_,rfl⟩
 have htl:file.data.toList.length=N:=by rw[ba_len,hN]
 have HL:=hide htl
 have HFN:=hide hN
 have hnN:(n:Int)≤(N:Int):=by omega
 have hnb:n≤284:=by omega
 have HWH:=hide (fun i (hi:i<n) w=>refWhole_any (file.extract 0 (i+1)) w (by rw[ByteArray.size_extract];omega))
 have HWI:=hide (fun i (hi:i<n)=>show Hd.whole (file.extract 0 (i+1))↔Hd.wholeAt file.data.toList i by
  unfold Hd.whole
  rw[ByteArray.size_extract,ext_take,show min (i+1) file.size-0-1=i by omega,Hd.whole_take]
  exact ⟨fun h=>h.2,fun h=>⟨by omega,h⟩⟩)
 have HF1:=hide (fun k (hk:k<n) h1 h2=>show SplO file.data.toList (k+1) from .inl ⟨k,by rw[HL.out];omega,h1,h2,rfl⟩)
 have HF2:=hide (fun h=>show SplO file.data.toList n from .inr ⟨by rw[HL.out,hn];exact h,by rw[HL.out,hn]⟩)
 rw[hN] at h284
 clear htl HL
 ·have j0:(284:Int)<(N:Int):=by omega
  obtain rfl:n=284:=by omega
  clear hn h284
  go_enter Tryz.func146,Tryz.ntmps146
  go_wp2
  go_loopw [5] (fun v wr=>∃ i:Nat,i≤284∧v = .int .i64 (i:Nat)∧Hd.noneTo file.data.toList i∧Below w.heap.size w wr) (fun v _=>284-(intOf v).toNat)
  case atStart=>exact ⟨0,Nat.zero_le _,rfl,fun i hi=>absurd hi (Nat.not_lt_zero _),Below.refl _ _⟩
  case round=>
   obtain ⟨i,hi,rfl,hno,hbe⟩:=hrel
   by_cases hlt:i<284
   ·have jl:(i:Int)<284:=by omega
    obtain ⟨i1,hi1⟩:∃ x:Nat,i+1=x:=⟨_,rfl⟩
    have ti:(i:Int)+1=(i1:Int):=by omega
    have ji:(i1:Int)≤(N:Int):=by omega
    have hi1b:i1≤284:=by omega
    have HW:=hide (HWH.out i hlt)
    have hwi:=HWI.out i hlt
    rw[hi1] at HW hwi
    have HNO:=hide hno
    have HBE:=hide hbe
    by_cases hd:Hd.whole (file.extract 0 i1)
    ·rw[decide_eq_true hd] at HW
     have hs:=HF1.out i hlt (hwi.1 hd) hno
     rw[hi1] at hs
     have HS:=hide hs
     clear hwi hd hno hbe hs hlt hi
     go_wp2_with fail
     refine (HW.out _).mono ?_
     rintro e w2 ⟨rfl,hb2⟩
     have HB2:=hide (HBE.out.trans (hb2.mono HBE.out.size))
     clear HW hb2
     go_wp2
     go_quiet (fail)
     go_wp2
     refine bodyPost_ret (results_tmp2 rfl _ _ _) rfl ?_
     exact ⟨i1,HS.out,by rw[HFN.out];rfl,below_drewN HB2.out _⟩
    ·rw[decide_eq_false hd] at HW
     have HNX:=hide (show Hd.noneTo file.data.toList (i+1) from fun k hk=>by
      rcases Nat.eq_or_lt_of_le (Nat.le_of_lt_succ hk) with e | e
      ·subst e;exact fun h=>hd (hwi.2 h)
      ·exact hno k e)
     have HLT:=hide hlt
     clear hwi hd hno hbe hlt hi
     go_wp2_with fail
     refine (HW.out _).mono ?_
     rintro e w2 ⟨rfl,hb2⟩
     have HB2:=hide (HBE.out.trans (hb2.mono HBE.out.size))
     clear HW hb2
     go_wp2
     go_roundw
     case rel=>exact ⟨i+1,HLT.out,by go_num,HNX.out,HB2.out⟩
     case measure=>have:=HLT.out;simp[intOf];omega
   ·obtain rfl:i=284:=by omega
    have HS:=hide (HF2.out hno)
    have HBE:=hide hbe
    clear hno hbe hlt hi
    go_wp2
    go_quiet (fail)
    go_wp2
    refine bodyPost_ret (results_tmp2 rfl _ _ _) rfl ?_
    exact ⟨284,HS.out,by rw[HFN.out];rfl,below_drewN HBE.out _⟩
set_option maxRecDepth 100000 in
set_option maxHeartbeats 1600000 in
theorem refSplit_b (file:ByteArray) (w:World) (hf:file.size≤1099511627776) (h284:¬ 284<file.size):
  Calls Tryz.prog 146 #[.string file] w fun e w'=>∃ j,SplO file.data.toList j∧e = .returned (.tuple #[.string (file.extract 0 j),.string (file.extract j file.size)])∧Below w.heap.size w w':=by
 obtain ⟨N,hN⟩:∃ N:Nat,file.size=N:=⟨_,rfl⟩
 obtain ⟨n,hn⟩:∃ n:Nat,min N 284=n:=⟨_,rfl⟩
 have htl:file.data.toList.length=N:=by rw[ba_len,hN]
 have HL:=hide htl
 have HFN:=hide hN
 have hnN:(n:Int)≤(N:Int):=by omega
 have hnb:n≤284:=by omega
 have HWH:=hide (fun i (hi:i<n) w=>refWhole_any (file.extract 0 (i+1)) w (by rw[ByteArray.size_extract];omega))
 have HWI:=hide (fun i (hi:i<n)=>show Hd.whole (file.extract 0 (i+1))↔Hd.wholeAt file.data.toList i by
  unfold Hd.whole
  rw[ByteArray.size_extract,ext_take,show min (i+1) file.size-0-1=i by omega,Hd.whole_take]
  exact ⟨fun h=>h.2,fun h=>⟨by omega,h⟩⟩)
 have HF1:=hide (fun k (hk:k<n) h1 h2=>show SplO file.data.toList (k+1) from .inl ⟨k,by rw[HL.out];omega,h1,h2,rfl⟩)
 have HF2:=hide (fun h=>show SplO file.data.toList n from .inr ⟨by rw[HL.out,hn];exact h,by rw[HL.out,hn]⟩)
 rw[hN] at h284
 clear htl HL
 ·have j0:¬ (284:Int)<(N:Int):=by omega
  obtain rfl:n=N:=by omega
  clear hn h284
  go_enter Tryz.func146,Tryz.ntmps146
  go_wp2
  go_loopw [5] (fun v wr=>∃ i:Nat,i≤n∧v = .int .i64 (i:Nat)∧Hd.noneTo file.data.toList i∧Below w.heap.size w wr) (fun v _=>n-(intOf v).toNat)
  case atStart=>exact ⟨0,Nat.zero_le _,rfl,fun i hi=>absurd hi (Nat.not_lt_zero _),Below.refl _ _⟩
  case round=>
   obtain ⟨i,hi,rfl,hno,hbe⟩:=hrel
   by_cases hlt:i<n
   ·have jl:(i:Int)<(n:Int):=by omega
    obtain ⟨i1,hi1⟩:∃ x:Nat,i+1=x:=⟨_,rfl⟩
    have ti:(i:Int)+1=(i1:Int):=by omega
    have ji:(i1:Int)≤(n:Int):=by omega
    have hi1b:i1≤284:=by omega
    have HW:=hide (HWH.out i hlt)
    have hwi:=HWI.out i hlt
    rw[hi1] at HW hwi
    have HNO:=hide hno
    have HBE:=hide hbe
    by_cases hd:Hd.whole (file.extract 0 i1)
    ·rw[decide_eq_true hd] at HW
     have hs:=HF1.out i hlt (hwi.1 hd) hno
     rw[hi1] at hs
     have HS:=hide hs
     clear hwi hd hno hbe hs hlt hi
     go_wp2_with fail
     refine (HW.out _).mono ?_
     rintro e w2 ⟨rfl,hb2⟩
     have HB2:=hide (HBE.out.trans (hb2.mono HBE.out.size))
     clear HW hb2
     go_wp2
     go_quiet (fail)
     go_wp2
     refine bodyPost_ret (results_tmp2 rfl _ _ _) rfl ?_
     exact ⟨i1,HS.out,by rw[HFN.out];rfl,below_drewN HB2.out _⟩
    ·rw[decide_eq_false hd] at HW
     have HNX:=hide (show Hd.noneTo file.data.toList (i+1) from fun k hk=>by
      rcases Nat.eq_or_lt_of_le (Nat.le_of_lt_succ hk) with e | e
      ·subst e;exact fun h=>hd (hwi.2 h)
      ·exact hno k e)
     have HLT:=hide hlt
     clear hwi hd hno hbe hlt hi
     go_wp2_with fail
     refine (HW.out _).mono ?_
     rintro e w2 ⟨rfl,hb2⟩
     have HB2:=hide (HBE.out.trans (hb2.mono HBE.out.size))
     clear HW hb2
     go_wp2
     go_roundw
     case rel=>exact ⟨i+1,HLT.out,by go_num,HNX.out,HB2.out⟩
     case measure=>have:=HLT.out;simp[intOf];omega
   ·obtain rfl:i=n:=by omega
    have HS:=hide (HF2.out hno)
    have HBE:=hide hbe
    clear hno hbe hlt hi
    go_wp2
    go_quiet (fail)
    go_wp2
    refine bodyPost_ret (results_tmp2 rfl _ _ _) rfl ?_
    exact ⟨i,HS.out,by rw[HFN.out,show file.extract i i=ByteArray.empty by simp];rfl,below_drewN HBE.out _⟩
theorem refSplit_any (file:ByteArray) (w:World) (hf:file.size≤1099511627776):
  Calls Tryz.prog 146 #[.string file] w fun e w'=>∃ j,SplO file.data.toList j∧e = .returned (.tuple #[.string (file.extract 0 j),.string (file.extract j file.size)])∧Below w.heap.size w w':=by
 by_cases h:284<file.size
 ·exact refSplit_a file w hf h
 ·exact refSplit_b file w hf h
theorem opnI_last {key C:List UInt8} {n size:Nat} (h:PlC key C n size):Ref.opnI key C n=Ref.opnC key n true (C.drop (32*n)):=by
 have hp:=h.pos
 have hn:=h.cn
 unfold Ref.opnI Ref.boxI
 rw[decide_eq_true (by omega),List.take_of_length_le (by rw[List.length_drop];omega)]
theorem opnI_mid {key C:List UInt8} {n size:Nat} (h:PlC key C n size) (i:Nat) (hi:i<n):Ref.opnI key C i=Ref.opnC key i false ((C.drop (32*i)).take 32):=by
 have hp:=h.pos
 have hn:=h.cn
 unfold Ref.opnI Ref.boxI
 rw[decide_eq_false (by omega)]
set_option maxRecDepth 100000 in
set_option maxHeartbeats 1600000 in
theorem refChunk_any (ab:Nat) (p:PlR) (i:Nat) (w:World) (hB:Blk w ab 198 p.mV) (hk:p.key.size=32) (hC:PlC p.key.data.toList p.body.data.toList p.n p.size) (hi:i≤p.n) (hb:p.body.size≤1099511627776):
  Calls Tryz.prog 156 #[.pointer (some ⟨ab,0,none⟩),.int .i64 (i:Nat)] w fun e w'=>e = .returned (.tuple #[.string ⟨(Ref.opnI p.key.data.toList p.body.data.toList i).1.toArray⟩,.int .i64 (Ref.opnI p.key.data.toList p.body.data.toList i).2])∧Below w.heap.size w w':=by
 have c0:=hB.cell (i:=0) rfl
 have c1:=hB.cell (i:=1) rfl
 have c2:=hB.cell (i:=2) rfl
 have hal:=hB.lt
 have hpos:=hC.pos
 have hcn:=hC.cn
 have hbl:p.body.data.toList.length=p.body.size:=ba_len _
 obtain ⟨F,hF⟩:∃ F:Nat,i*32=F:=⟨_,rfl⟩
 have tF:(i:Int)*32=(F:Int):=by omega
 by_cases he:i=p.n
 ·have zn:((i:Int)==(p.n:Int))=true:=by rw[he];exact beq_self_eq_true _
  have jF:(F:Int)≤(p.body.size:Int):=by omega
  have hFb:F≤1099511627776:=by omega
  have hwF:IntKind.i64.wrap ((F:Nat):Int)=(F:Int):=IntWalk.i64_in _ (by omega)
  have hL:=opnI_last hC
  rw[←he] at hL
  have hOP:=refOpened_any p.key i true (p.body.extract F p.body.size) w.drew hk (by omega) (by rw[ByteArray.size_extract];omega)
  rw[sub_list,List.take_of_length_le (by rw[List.length_drop];omega),show F=32*i by omega,←hL,show 32*i=F by omega] at hOP
  unfold ansV at hOP
  have HOP:=hide hOP
  generalize Ref.opnI p.key.data.toList p.body.data.toList i=r at *
  clear hOP hL hB hC hk hpos hcn hbl hF he
  go_enter Tryz.func156,Tryz.ntmps156
  go_wp2
  go_region_held3 (fun w'=>w'.cell? ⟨ab,0,none⟩=some (.string p.key)∧w'.cell? ⟨ab,1,none⟩=some (.string p.body)) (refine ⟨?_,?_⟩ <;> first | assumption | (exact (hb5.cell hal).trans (by assumption))) ((go_at_call 148;refine HOP.out.mono ?_;rintro e w5 ⟨rfl,hb5⟩))
  rename_i hH
  clear hH
  go_wp2
  refine bodyPost_ret (results_tmp2 rfl _ _ _) rfl ?_
  exact ⟨rfl,(show Below w.heap.size w w.drew from ⟨rfl,rfl,rfl,Nat.le_refl _,fun _ _=>rfl⟩).trans hb5⟩
 ·have zn:((i:Int)==(p.n:Int))=false:=beq_eq_false_iff_ne.2 (by omega)
  obtain ⟨G,hG⟩:∃ G:Nat,(i+1)*32=G:=⟨_,rfl⟩
  have tG:((i:Int)+1)*32=(G:Int):=by omega
  have jG:(G:Int)≤(p.body.size:Int):=by omega
  have jFG:(F:Int)≤(G:Int):=by omega
  have hGb:G≤1099511627776:=by omega
  have hwF:IntKind.i64.wrap ((F:Nat):Int)=(F:Int):=IntWalk.i64_in _ (by omega)
  have hwG:IntKind.i64.wrap ((G:Nat):Int)=(G:Int):=IntWalk.i64_in _ (by omega)
  have hib:i≤1099511627776:=by omega
  have hwi:IntKind.i64.wrap ((i:Int)+1)=(i:Int)+1:=IntWalk.i64_in _ (by omega)
  have hL:=opnI_mid hC i (by omega)
  have hOP:=refOpened_any p.key i false (p.body.extract F G) w.drew hk (by omega) (by rw[ByteArray.size_extract];omega)
  rw[sub_list,show G-F=32 by omega,show F=32*i by omega,←hL,show 32*i=F by omega] at hOP
  unfold ansV at hOP
  have HOP:=hide hOP
  generalize Ref.opnI p.key.data.toList p.body.data.toList i=r at *
  clear hOP hL hB hC hk hpos hcn hbl hF hG
  go_enter Tryz.func156,Tryz.ntmps156
  go_wp2
  go_region_held3 (fun w'=>w'.cell? ⟨ab,0,none⟩=some (.string p.key)∧w'.cell? ⟨ab,1,none⟩=some (.string p.body)) (refine ⟨?_,?_⟩ <;> first | assumption | (exact (hb5.cell hal).trans (by assumption))) ((go_at_call 148;refine HOP.out.mono ?_;rintro e w5 ⟨rfl,hb5⟩))
  rename_i hH
  clear hH
  go_wp2
  refine bodyPost_ret (results_tmp2 rfl _ _ _) rfl ?_
  exact ⟨rfl,(show Below w.heap.size w w.drew from ⟨rfl,rfl,rfl,Nat.le_refl _,fun _ _=>rfl⟩).trans hb5⟩
namespace Ref
def ulk (m:List UInt8) (top rest:ByteArray):List UInt8 × ByteArray × Int:=
 if (opnA m top).2≠0 then ([],⟨#[]⟩,(opnA m top).2) else if rest.size<16 then ([],⟨#[]⟩,10) else (keyL (opnA m top).1 (rest.extract 0 16).data.toList inBody,rest.extract 16 rest.size,0)
def newAtA (m:List UInt8) (file:ByteArray) (j:Nat):Int × List UInt8 × ByteArray × Nat:=
 if m.length≠32 then (1,[],⟨#[]⟩,0)
 else if (ulk m (file.extract 0 j) (file.extract j file.size)).2.2≠0 then ((ulk m (file.extract 0 j) (file.extract j file.size)).2.2,[],⟨#[]⟩,0)
 else if (ulk m (file.extract 0 j) (file.extract j file.size)).2.1.size=0 then (10,[],⟨#[]⟩,0)
 else if (opnI (ulk m (file.extract 0 j) (file.extract j file.size)).1 (ulk m (file.extract 0 j) (file.extract j file.size)).2.1.data.toList (((ulk m (file.extract 0 j) (file.extract j file.size)).2.1.size-1)/32)).2≠0 then ((opnI (ulk m (file.extract 0 j) (file.extract j file.size)).1 (ulk m (file.extract 0 j) (file.extract j file.size)).2.1.data.toList (((ulk m (file.extract 0 j) (file.extract j file.size)).2.1.size-1)/32)).2,[],⟨#[]⟩,0)
 else (0,(ulk m (file.extract 0 j) (file.extract j file.size)).1,(ulk m (file.extract 0 j) (file.extract j file.size)).2.1,16*(((ulk m (file.extract 0 j) (file.extract j file.size)).2.1.size-1)/32)+(opnI (ulk m (file.extract 0 j) (file.extract j file.size)).1 (ulk m (file.extract 0 j) (file.extract j file.size)).2.1.data.toList (((ulk m (file.extract 0 j) (file.extract j file.size)).2.1.size-1)/32)).1.length)
end Ref
theorem ext_end (f:ByteArray) (a:Nat):(f.extract a f.size).data.toList=f.data.toList.drop a:=by
 rw[sub_list,List.take_of_length_le (by rw[List.length_drop,ba_len];exact Nat.le_refl _)]
theorem ext_ext (f:ByteArray) (a b:Nat):(f.extract a f.size).extract b (f.extract a f.size).size=f.extract (a+b) f.size:=by
 refine ba_ext ?_
 rw[ext_end,ext_end,ext_end,List.drop_drop]
theorem ext_ext0 (f:ByteArray) (a b:Nat) (h:a+b≤f.size):(f.extract a f.size).extract 0 b=f.extract a (a+b):=by
 refine ba_ext ?_
 rw[sub_list,sub_list,sub_list,List.drop_zero,List.take_take,Nat.add_sub_cancel_left,Nat.sub_zero,Nat.min_eq_left (by omega)]
theorem new_ulk {m:List UInt8} {file:ByteArray} {y:Src} {k:Int} {key:List UInt8} (h:Ref.New m (src0 file) y k key) {j:Nat} (hj:SplO file.data.toList j):
  (m.length≠32∧k=1)∨(m.length=32∧k≠0∧(Ref.ulk m (file.extract 0 j) (file.extract j file.size)).2.2=k)∨(m.length=32∧k=0∧y.at_≤file.size∧Ref.ulk m (file.extract 0 j) (file.extract j file.size)=(key,file.extract y.at_ file.size,0)):=by
 cases h using Ref.New.elim with
 | len hl=>exact .inl ⟨hl,rfl⟩
 | src _ j' _ ht=>exact absurd rfl (top_split ht).2.1
 | top _ j' c hl ht _ ho=>
  obtain ⟨a1,_⟩:=top_split ht
  obtain rfl:=a1.det hj
  refine .inr (.inl ⟨hl,ho,?_⟩)
  have e:topS (src0 file) j'=file.extract 0 j':=by show file.extract 0 (0+j')=_;rw[Nat.zero_add]
  rw[e] at ho ⊢
  unfold Ref.ulk
  rw[if_pos ho]
 | cut y' j' c _ d hl ht _ ho ha hd=>
  obtain ⟨a1,_,a3,a4,a5⟩:=top_split ht
  obtain rfl:=a1.det hj
  have e:topS (src0 file) j'=file.extract 0 j':=by show file.extract 0 (0+j')=_;rw[Nat.zero_add]
  rw[e] at ho
  have hpl:y'.plan=[]:=(ht.left (Nat.zero_le _)).plan
  have hcl:Src.Calm y'.plan:=by rw[hpl];exact src0_calm file
  obtain ⟨b1,b2⟩:=ha.calm_all hcl (by rw[a4,a3];exact a5)
  rw[a4,a3] at b1 b2
  have hd2:=ha.calm hcl
  rcases Nat.lt_or_ge file.size (j'+16) with q | q
  ·refine .inr (.inl ⟨hl,by rw[if_neg hd2];decide,?_⟩)
   unfold Ref.ulk
   rw[if_neg (fun q=>q ho),if_pos (by rw[ByteArray.size_extract];omega),if_neg hd2]
  ·exact absurd (b1 q).1 hd
 | ok y' j' c _ hl ht _ ho ha=>
  obtain ⟨a1,_,a3,a4,a5⟩:=top_split ht
  obtain rfl:=a1.det hj
  have e:topS (src0 file) j'=file.extract 0 j':=by show file.extract 0 (0+j')=_;rw[Nat.zero_add]
  rw[e] at ho
  have L:=ha.left (by rw[a4,a3];exact a5)
  have h1:=L.all rfl
  have h2:=L.size
  have h3:y.s=file:=L.s.trans a4
  rw[h3,h1,a3] at h2
  refine .inr (.inr ⟨hl,rfl,by rw[h1,a3];exact h2,?_⟩)
  unfold Ref.ulk
  rw[if_neg (fun q=>q ho),if_neg (by rw[ByteArray.size_extract];omega),ext_ext file j' 16,ext_ext0 file j' 16 h2,h1,a3,e]
  have e2:topS y' 16=file.extract j' (j'+16):=by unfold topS;rw[a4,a3]
  rw[e2]
theorem atN_ref {m:List UInt8} {file:ByteArray} {k:Int} {key:List UInt8} {ch:ByteArray} {size j:Nat} (h:AtN m file k key ch size) (hj:SplO file.data.toList j):Ref.newAtA m file j=(k,key,ch,size):=by
 unfold Ref.newAtA
 cases h using AtN.elim with
 | bad y _ key' hn hk=>
  rcases new_ulk hn hj with ⟨a,rfl⟩ | ⟨a,_,b⟩ | ⟨_,b,_⟩
  ·rw[if_pos a]
  ·rw[if_neg (fun q=>q a),b,if_pos hk]
  ·exact absurd b hk
 | cut y key' hn hle=>
  rcases new_ulk hn hj with ⟨_,a⟩ | ⟨_,a,_⟩ | ⟨a,_,b,c⟩
  ·exact absurd a (by decide)
  ·exact absurd rfl a
  ·rw[if_neg (fun q=>q a),c,if_neg (by simp),if_pos (by show (file.extract y.at_ file.size).size=0;rw[ByteArray.size_extract];omega)]
 | last y key' hn hlt ho=>
  rcases new_ulk hn hj with ⟨_,a⟩ | ⟨_,a,_⟩ | ⟨a,_,b,c⟩
  ·exact absurd a (by decide)
  ·exact absurd rfl a
  ·have e:(file.extract y.at_ file.size).size=file.size-y.at_:=by rw[ByteArray.size_extract];omega
   rw[if_neg (fun q=>q a),c,if_neg (by simp)]
   simp only[e]
   rw[if_neg (by omega),if_pos ho]
 | ok y _ hn hlt ho=>
  rcases new_ulk hn hj with ⟨_,a⟩ | ⟨_,a,_⟩ | ⟨a,_,b,c⟩
  ·exact absurd a (by decide)
  ·exact absurd rfl a
  ·have e:(file.extract y.at_ file.size).size=file.size-y.at_:=by rw[ByteArray.size_extract];omega
   rw[if_neg (fun q=>q a),c,if_neg (by simp)]
   simp only[e]
   rw[if_neg (by omega),if_neg (fun q=>q ho)]
set_option maxRecDepth 100000 in
set_option maxHeartbeats 1600000 in
theorem refUnlocked_any (master top rest:ByteArray) (w:World) (hm:master.size=32) (ht:top.size≤1000) (hr:rest.size≤1099511627776):
  Calls Tryz.prog 147 #[.string master,.string top,.string rest] w fun e w'=>e = .returned (.tuple #[.string ⟨(Ref.ulk master.data.toList top rest).1.toArray⟩,.string (Ref.ulk master.data.toList top rest).2.1,.int .i64 (Ref.ulk master.data.toList top rest).2.2])∧Below w.heap.size w w':=by
 have HPA:=hide (headParse_any top w (by omega))
 rcases Hd.parAns_cases top with h | ⟨ss,bs,mac,hO,hT,h⟩
 ·have hu:Ref.ulk master.data.toList top rest=([],⟨#[]⟩,6):=by unfold Ref.ulk;rw[opnA_bad h,if_pos (by decide)]
  rw[h] at HPA
  rw[hu]
  clear h hu
  go_enter Tryz.func147,Tryz.ntmps147
  go_wp2_with fail
  refine HPA.out.mono ?_
  rintro e w1 ⟨vs,vb,rfl,hr1,hr2,hb1⟩
  obtain ⟨o1,c1,rfl,_⟩:=Row.anyN hr1
  obtain ⟨o2,c2,rfl,_⟩:=Row.anyN hr2
  have B1:=hide hb1
  have hsz:=hb1.size
  clear HPA hr1 hr2 hb1
  go_wp2
  refine bodyPost_ret (results_tmp3 rfl _ _ _) rfl ?_
  exact ⟨rfl,B1.out.alloc hsz _⟩
 ·rw[h] at HPA
  have hq:=opsA_eq (m:=master.data.toList) h hO hT
  obtain ⟨op,hop⟩:∃ x,Ref.opsA master.data.toList ss bs mac=x:=⟨_,rfl⟩
  have HOP:=hide (fun hb vs vb (w':World) (h0:OpS w' hb vs vb mac ss bs w')=>refOpens_any master hb vs vb mac ss bs w' h0 hO (by omega))
  have HUL:=hide (show Ref.ulk master.data.toList top rest=if op.2≠0 then ([],⟨#[]⟩,op.2) else if rest.size<16 then ([],⟨#[]⟩,10) else (Ref.keyL op.1 (rest.extract 0 16).data.toList Ref.inBody,rest.extract 16 rest.size,0) by unfold Ref.ulk;rw[hq,hop])
  have hol:op.1.length≤32:=by rw[←hop,←hq];exact Ref.opnA_len _ _
  rw[hop] at HOP
  generalize Ref.ulk master.data.toList top rest=UU at *
  change Hid (Calls Tryz.prog 124 #[.string top] w fun e w'=>∃ vs vb,e = .returned (.tuple #[.agg #[vs,vb,.string mac],.int .i64 0]) ∧
   Row w' w.heap.size 9 1 vs ss.length (strV ss)∧Row w' w.heap.size 9 1 vb bs.length (strV bs)∧Below w.heap.size w w') at HPA
  clear h hq hop hO hT
  obtain ⟨ot,oe⟩:=op
  unfold ansV at HOP
  go_enter Tryz.func147,Tryz.ntmps147
  go_wp2_with fail
  refine HPA.out.mono ?_
  rintro e w1 ⟨vs,vb,rfl,hr1,hr2,hb1⟩
  have hbA:Below w1.heap.size w1 (w1.alloc (.cells #[vs,vb,.string mac] 155)):=(Below.refl _ _).alloc (Nat.le_refl _) _
  have hB2:Blk (w1.alloc (.cells #[vs,vb,.string mac] 155)) w1.heap.size 155 [vs,vb,.string mac]:=Blk.new rfl rfl
  have HO2:=hide (HOP.out w1.heap.size vs vb _ ⟨hB2,Below.refl _ _,(Row.strs hr1).after hbA,(Row.strs hr2).after hbA⟩)
  have B2:=hide (hb1.trans (hbA.mono hb1.size))
  obtain ⟨o1,c1,rfl,_⟩:=Row.anyN hr1
  obtain ⟨o2,c2,rfl,_⟩:=Row.anyN hr2
  clear HPA hr1 hr2 hb1 hbA hB2 HOP
  go_wp2_with fail
  refine HO2.out.mono ?_
  rintro e w3 ⟨rfl,hb3⟩
  have B3:=hide (B2.out.trans (hb3.mono B2.out.size))
  clear HO2 hb3 B2
  by_cases hoe:oe=0
  ·subst hoe
   obtain ⟨R,hR⟩:∃ R:Nat,rest.size=R:=⟨_,rfl⟩
   by_cases h16:R<16
   ·have j16:(R:Int)<16:=by omega
    have HU:=hide (show UU=([],⟨#[]⟩,10) by rw[HUL.out,if_neg (fun q=>q rfl),if_pos (by omega)])
    clear HUL h16
    go_wp2
    refine bodyPost_ret (results_tmp3 rfl _ _ _) rfl ?_
    exact ⟨by rw[HU.out];rfl,B3.out⟩
   ·have j16:¬ (R:Int)<16:=by omega
    have j17:(16:Int)≤(R:Int):=by omega
    have HU:=hide (show UU=(Ref.keyL ot (rest.extract 0 16).data.toList Ref.inBody,rest.extract 16 R,0) by rw[HUL.out,if_neg (fun q=>q rfl),if_neg (by omega),hR])
    have HK:=hide (fun w'=>refKey_any ⟨ot.toArray⟩ (rest.extract 0 16) ⟨#[112,97,121,108,111,97,100]⟩ w' (by rw[two_size];omega) (by rw[ByteArray.size_extract];omega) (by decide))
    rw[two_toList,show (expO (macL (rest.extract 0 16).data.toList ot) (⟨#[112,97,121,108,111,97,100]⟩:ByteArray).data.toList 1).take 32=Ref.keyL ot (rest.extract 0 16).data.toList Ref.inBody from rfl] at HK
    generalize (⟨ot.toArray⟩:ByteArray)=ob at *
    generalize hKK:(⟨(Ref.keyL ot (rest.extract 0 16).data.toList Ref.inBody).toArray⟩:ByteArray)=KK at *
    have HKK:=hide hKK
    clear HUL h16 hKK hol
    go_wp2_with fail
    refine (HK.out _).mono ?_
    rintro e w4 ⟨rfl,hb4⟩
    have B4:=hide (B3.out.trans (hb4.mono B3.out.size))
    clear HK hb4 B3
    go_wp2
    go_quiet (fail)
    go_wp2
    refine bodyPost_ret (results_tmp3 rfl _ _ _) rfl ?_
    exact ⟨by rw[HU.out];simp only;rw[HKK.out];rfl,below_drewN B4.out _⟩
  ·have z1:(oe != 0)=true:=by rw[bne_iff_ne];exact hoe
   have HU:=hide (show UU=([],⟨#[]⟩,oe) by rw[HUL.out,if_pos hoe])
   clear HUL hoe
   go_wp2
   refine bodyPost_ret (results_tmp3 rfl _ _ _) rfl ?_
   exact ⟨by rw[HU.out];rfl,B3.out⟩
end Go.Proofs.YtmjekklgefdolaaGreatDoor
