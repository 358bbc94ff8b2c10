import Derived.Test.YtmjekklgefdolaaGreatDoorRe14
namespace Go.Proofs.YtmjekklgefdolaaGreatDoor
open Go.RowKit
theorem Hd.cutS_line (s:ByteArray):∀ k,(Hd.cutS s 10 k).2=Hd.lineAt s.data.toList k
 | 0=>rfl
 | k+1=>by
  rw[Hd.cutS,Hd.lineAt]
  split
  ·rfl
  ·exact Hd.cutS_line s k
theorem Hd.cut_end {s:ByteArray} {m:Nat} (hs:s.size=m+1) (h:s.data.toList.getD m 0=10):Hd.cut s 10=((Hd.cutS s 10 m).1++[s.extract (Hd.lineAt s.data.toList m) m])++[⟨#[]⟩]:=by
 unfold Hd.cut
 rw[hs,Hd.cutS,if_pos h,Hd.cutS_line]
 have e:s.extract (m+1) (m+1)=⟨#[]⟩:=ba_ext (by rw[sub_list,Nat.sub_self];rfl)
 show (_++[_])++[s.extract (m+1) (m+1)]=_
 rw[e]
theorem Hd.cut_mid {s:ByteArray} {m:Nat} (hs:s.size=m+1) (h:s.data.toList.getD m 0≠10):Hd.cut s 10=(Hd.cutS s 10 m).1++[s.extract (Hd.lineAt s.data.toList m) (m+1)]:=by
 unfold Hd.cut
 rw[hs,Hd.cutS,if_neg h,Hd.cutS_line]
theorem getD_app {α:Type} (a b:List α) (d:α) (i:Nat):(a++b).getD (a.length+i) d=b.getD i d:=by
 rw[List.getD_eq_getElem?_getD,List.getElem?_append_right (by omega),Nat.add_sub_cancel_left,←List.getD_eq_getElem?_getD]
abbrev Hd.whole (t:ByteArray):Prop:=0<t.size∧Hd.wholeAt t.data.toList (t.size-1)
set_option maxRecDepth 100000 in
set_option maxHeartbeats 1600000 in
theorem refWhole_any (t:ByteArray) (w:World) (ht:t.size≤1000):
  Calls Tryz.prog 143 #[.string t] w fun e w'=>e = .returned (.bool (decide (Hd.whole t)))∧Below w.heap.size w w':=by
 have HC:=hide (headCut_any t 10 w (by omega))
 rcases Nat.eq_zero_or_pos t.size with h0 | h0
 ·have hcut:Hd.cut t 10=[t.extract 0 0]:=by
   unfold Hd.cut
   rw[h0]
   rfl
  rw[hcut] at HC
  have HR:=hide (show decide (Hd.whole t)=false from decide_eq_false (fun h=>by have:=h.1;omega))
  clear hcut
  go_enter Tryz.func143,Tryz.ntmps143
  go_wp2_with fail
  refine HC.out.mono ?_
  rintro e w1 ⟨v,rfl,hr,hb⟩
  obtain ⟨ao,cp,rfl,_⟩:=Row.anyN hr
  have HB:=hide hb
  clear HC hr hb
  go_wp2
  go_ret
  exact ⟨by rw[HR.out];rfl,HB.out⟩
 ·obtain ⟨m,hm⟩:∃ m:Nat,t.size=m+1:=⟨t.size-1,by omega⟩
  have hw:Hd.whole t↔Hd.wholeAt t.data.toList m:=by
   unfold Hd.whole
   rw[hm]
   exact ⟨fun h=>h.2,fun h=>⟨by omega,h⟩⟩
  have hle:=Hd.lineAt_le t.data.toList m
  have hcl:=(Hd.cutS_le t 10 m).1
  by_cases h10:t.data.toList.getD m 0=10
  ·have hcut:=Hd.cut_end hm h10
   rw[hcut] at HC
   obtain ⟨A,hA⟩:∃ A,(Hd.cutS t 10 m).1=A:=⟨_,rfl⟩
   obtain ⟨X,hX⟩:∃ X,t.extract (Hd.lineAt t.data.toList m) m=X:=⟨_,rfl⟩
   have hXs:X.size=m-Hd.lineAt t.data.toList m:=by rw[←hX,ByteArray.size_extract];omega
   have hXl:X.data.toList.take 3=if 3≤X.size then (t.data.toList.drop (Hd.lineAt t.data.toList m)).take 3 else X.data.toList.take 3:=by
    split
    ·rw[←hX,sub_list,List.take_take,Nat.min_eq_left (by omega)]
    ·rfl
   rw[hA,hX] at HC
   rw[hA] at hcl
   have hwx:Hd.whole t↔3≤X.size∧X.data.toList.take 3=Hd.mark:=by
    rw[hw]
    unfold Hd.wholeAt
    constructor
    ·rintro ⟨_,h2,h3⟩
     have h4:3≤X.size:=by omega
     rw[if_pos h4] at hXl
     exact ⟨h4,by rw[hXl];exact h3⟩
    ·rintro ⟨h4,h5⟩
     rw[if_pos h4] at hXl
     exact ⟨h10,by omega,by rw[←hXl];exact h5⟩
   have hlen:((A++[X])++[(⟨#[]⟩:ByteArray)]).length=A.length+2:=by simp
   have hg1:((A++[X])++[(⟨#[]⟩:ByteArray)]).getD (A.length+1) ⟨#[]⟩=⟨#[]⟩:=by
    rw[List.append_assoc,getD_app]
    rfl
   have hg2:((A++[X])++[(⟨#[]⟩:ByteArray)]).getD A.length ⟨#[]⟩=X:=by
    have h:=getD_app A ([X]++[(⟨#[]⟩:ByteArray)]) ⟨#[]⟩ 0
    rw[Nat.add_zero] at h
    rw[List.append_assoc,h]
    rfl
   have hXb:X.size≤1000:=by omega
   rw[hlen] at HC
   have HG:=hide (And.intro hg1 (And.intro hg2 hlen))
   have hex:=ext_take X 3
   obtain ⟨n,hn⟩:∃ n:Nat,A.length=n:=⟨_,rfl⟩
   rw[hn] at HC HG hcl
   have hnb:n≤1000:=by omega
   generalize (A++[X])++[(⟨#[]⟩:ByteArray)]=LL at *
   have HWX:=hide hwx
   clear hcut hA hX hXs hXl hwx hw hle hcl h10 hn hg1 hg2 hlen
   obtain ⟨K,hK⟩:∃ K:Nat,n+2=K:=⟨_,rfl⟩
   obtain ⟨K1,hK1⟩:∃ K:Nat,n+1=K:=⟨_,rfl⟩
   rw[hK] at HC HG
   rw[hK1] at HG
   have tK1:(K:Int)-1=(K1:Int):=by omega
   have tK2:(K:Int)-2=(n:Int):=by omega
   have jK:(2:Int)≤(K:Int):=by omega
   have jK1:(K1:Int)<(K:Int):=by omega
   have jn:(n:Int)<(K:Int):=by omega
   have hKb:K≤1002:=by omega
   have hlt1:K1<K:=by omega
   have hlt2:n<K:=by omega
   clear hK hK1
   have walk:∀ bb:Bool,(bb=true↔3≤X.size∧X.data.toList.take 3=Hd.mark)→Calls Tryz.prog 143 #[.string t] w fun e w'=>e = .returned (.bool bb)∧Below w.heap.size w w':=by
    intro bb hbb
    by_cases h3:3≤X.size
    ·have j3:(3:Int)≤(X.size:Int):=by omega
     by_cases hmk:X.data.toList.take 3=Hd.mark
     ·obtain rfl:bb=true:=hbb.2 ⟨h3,hmk⟩
      have he:X.extract 0 3=⟨#[45,45,45]⟩:=ba_ext (by rw[hex,hmk];rfl)
      clear hbb hmk h3 hex
      go_enter Tryz.func143,Tryz.ntmps143
      go_wp2_with fail
      refine HC.out.mono ?_
      rintro e w1 ⟨v,rfl,hr,hb⟩
      have hst:=Row.strs (show Row w1 w.heap.size 9 1 v LL.length (strV LL) by rw[HG.out.2.2];exact hr)
      obtain ⟨g,o,cc,hv,hgl,e1⟩:=hst.at K1 (by rw[HG.out.2.2];exact hlt1)
      obtain ⟨g',o',cc',hv',hgl',e2⟩:=hst.at n (by rw[HG.out.2.2];exact hlt2)
      rw[hv] at hv'
      injection hv' with hv1 _ _
      injection hv1 with hv1
      injection hv1 with hv1 hv2 _
      subst hv1
      subst hv2
      subst hv
      rw[HG.out.1] at e1
      rw[HG.out.2.1] at e2
      rw[HG.out.2.2]
      have HB:=hide hb
      clear HC hr hb hst hgl hgl'
      go_wp2
      go_ret
      exact ⟨rfl,HB.out⟩
     ·obtain rfl:bb=false:=Bool.eq_false_iff.2 (fun h=>hmk (hbb.1 h).2)
      have he:((X.extract 0 3).toList==[45,45,45])=false:=str_neL (by rw[hex];exact hmk)
      clear hbb hmk h3 hex
      go_enter Tryz.func143,Tryz.ntmps143
      go_wp2_with fail
      refine HC.out.mono ?_
      rintro e w1 ⟨v,rfl,hr,hb⟩
      have hst:=Row.strs (show Row w1 w.heap.size 9 1 v LL.length (strV LL) by rw[HG.out.2.2];exact hr)
      obtain ⟨g,o,cc,hv,hgl,e1⟩:=hst.at K1 (by rw[HG.out.2.2];exact hlt1)
      obtain ⟨g',o',cc',hv',hgl',e2⟩:=hst.at n (by rw[HG.out.2.2];exact hlt2)
      rw[hv] at hv'
      injection hv' with hv1 _ _
      injection hv1 with hv1
      injection hv1 with hv1 hv2 _
      subst hv1
      subst hv2
      subst hv
      rw[HG.out.1] at e1
      rw[HG.out.2.1] at e2
      rw[HG.out.2.2]
      have HB:=hide hb
      clear HC hr hb hst hgl hgl'
      go_wp2
      go_ret
      exact ⟨rfl,HB.out⟩
    ·have j3:decide ((3:Int)≤(X.size:Int))=false:=decide_eq_false (by omega)
     obtain rfl:bb=false:=Bool.eq_false_iff.2 (fun h=>h3 (hbb.1 h).1)
     clear hbb h3 hex
     go_enter Tryz.func143,Tryz.ntmps143
     go_wp2_with fail
     refine HC.out.mono ?_
     rintro e w1 ⟨v,rfl,hr,hb⟩
     have hst:=Row.strs (show Row w1 w.heap.size 9 1 v LL.length (strV LL) by rw[HG.out.2.2];exact hr)
     obtain ⟨g,o,cc,hv,hgl,e1⟩:=hst.at K1 (by rw[HG.out.2.2];exact hlt1)
     obtain ⟨g',o',cc',hv',hgl',e2⟩:=hst.at n (by rw[HG.out.2.2];exact hlt2)
     rw[hv] at hv'
     injection hv' with hv1 _ _
     injection hv1 with hv1
     injection hv1 with hv1 hv2 _
     subst hv1
     subst hv2
     subst hv
     rw[HG.out.1] at e1
     rw[HG.out.2.1] at e2
     rw[HG.out.2.2]
     have HB:=hide hb
     clear HC hr hb hst hgl hgl'
     go_wp2
     go_ret
     exact ⟨rfl,HB.out⟩
   by_cases hd:Hd.whole t
   ·rw[decide_eq_true hd]
    exact walk true ⟨fun _=>HWX.out.1 hd,fun _=>rfl⟩
   ·rw[decide_eq_false hd]
    exact walk false ⟨(fun h=>by cases h),fun h=>absurd (HWX.out.2 h) hd⟩
  ·have hcut:=Hd.cut_mid hm h10
   rw[hcut] at HC
   have hnw:decide (Hd.whole t)=false:=decide_eq_false (fun h=>h10 (hw.1 h).1)
   rw[hnw]
   obtain ⟨A,hA⟩:∃ A,(Hd.cutS t 10 m).1=A:=⟨_,rfl⟩
   obtain ⟨X,hX⟩:∃ X,t.extract (Hd.lineAt t.data.toList m) (m+1)=X:=⟨_,rfl⟩
   have hXs:0<X.size:=by rw[←hX,ByteArray.size_extract];omega
   rw[hA,hX] at HC
   rw[hA] at hcl
   have hlen:(A++[X]).length=A.length+1:=by simp
   have hg1:(A++[X]).getD A.length ⟨#[]⟩=X:=by
    have h:=getD_app A [X] ⟨#[]⟩ 0
    rw[Nat.add_zero] at h
    rw[h]
    rfl
   rw[hlen] at HC
   have HG:=hide (And.intro hg1 hlen)
   obtain ⟨n,hn⟩:∃ n:Nat,A.length=n:=⟨_,rfl⟩
   rw[hn] at HC HG hcl
   generalize A++[X]=LL at *
   obtain ⟨K,hK⟩:∃ K:Nat,n+1=K:=⟨_,rfl⟩
   rw[hK] at HC HG
   have tK1:(K:Int)-1=(n:Int):=by omega
   have jn:(n:Int)<(K:Int):=by omega
   have hKb:K≤1002:=by omega
   have hlt2:n<K:=by omega
   have zX:X.toList.isEmpty=false:=str_isne (fun e=>by
    have h0:X.data.toList.length=0:=by rw[e];rfl
    rw[ba_len] at h0
    omega)
   by_cases h2:2≤K
   ·have jK:(2:Int)≤(K:Int):=by omega
    clear hcut hA hX hw hle hcl h10 hn hg1 hlen hK hnw
    go_enter Tryz.func143,Tryz.ntmps143
    go_wp2_with fail
    refine HC.out.mono ?_
    rintro e w1 ⟨v,rfl,hr,hb⟩
    have hst:=Row.strs (show Row w1 w.heap.size 9 1 v LL.length (strV LL) by rw[HG.out.2];exact hr)
    obtain ⟨g,o,cc,hv,hgl,e1⟩:=hst.at n (by rw[HG.out.2];exact hlt2)
    subst hv
    rw[HG.out.1] at e1
    rw[HG.out.2]
    have HB:=hide hb
    clear HC hr hb hst hgl
    go_wp2
    go_ret
    exact ⟨rfl,HB.out⟩
   ·have jK:decide ((2:Int)≤(K:Int))=false:=decide_eq_false (by omega)
    clear hcut hA hX hw hle hcl h10 hn hg1 hlen hK hnw
    go_enter Tryz.func143,Tryz.ntmps143
    go_wp2_with fail
    refine HC.out.mono ?_
    rintro e w1 ⟨v,rfl,hr,hb⟩
    obtain ⟨ao,cp,rfl,_⟩:=Row.anyN hr
    have HB:=hide hb
    clear HC hr hb
    go_wp2
    go_ret
    exact ⟨rfl,HB.out⟩
structure UW (w:World) (vs vb:Value) (mac:ByteArray) (ss bs:List ByteArray) (wi:World):Prop where
 hb:Blk wi w.heap.size 155 [vs,vb,.string mac]
 be:Below w.heap.size w wi
 tb:Tabs wi
 s1:Strs wi vs ss
 s2:Strs wi vb bs
theorem UW.after {w:World} {vs vb:Value} {mac:ByteArray} {ss bs:List ByteArray} {wi wj:World} (h:UW w vs vb mac ss bs wi) (hb:Below wi.heap.size wi wj):UW w vs vb mac ss bs wj:=
 ⟨h.hb.below hb h.hb.lt,h.be.trans (hb.mono h.be.size),h.tb.after hb,h.s1.after hb,h.s2.after hb⟩
set_option maxRecDepth 100000 in
set_option maxHeartbeats 3200000 in
theorem unwrap_any (master:ByteArray) (vs vb:Value) (mac:ByteArray) (ss bs:List ByteArray) (w:World) (ht:Tabs w) (h1:Strs w vs ss) (h2:Strs w vb bs) (hl:bs.length=ss.length) (hn:ss.length≤3) (hm:master.size≤1000) (hz1:∀ i,(ss.getD i ⟨#[]⟩).size≤1000) (hz2:∀ i,(bs.getD i ⟨#[]⟩).size≤1000):
  Calls Tryz.prog 190 #[.string master,.agg #[vs,vb,.string mac]] w fun e w'=>e = .returned (.tuple #[.string ⟨(Ref.unwA master.data.toList ss bs).1.toArray⟩,.int .i64 (Ref.unwA master.data.toList ss bs).2])∧Below w.heap.size w w':=by
 have hbA:Below w.heap.size w (w.alloc (.cells #[vs,vb,.string mac] 155)):=(Below.refl _ _).alloc (Nat.le_refl _) _
 have hBK:Blk (w.alloc (.cells #[vs,vb,.string mac] 155)) w.heap.size 155 [vs,vb,.string mac]:=Blk.new rfl rfl
 have H0:=hide (show UW w vs vb mac ss bs (w.alloc (.cells #[vs,vb,.string mac] 155)) from ⟨hBK,hbA,ht.after hbA,h1.after hbA,h2.after hbA⟩)
 have HN:Hid (∀ w,Calls Tryz.prog 214 #[.int .i64 12] w fun e w'=>e = .returned (.string ⟨(nought 12).toArray⟩)∧Below w.heap.size w w'):=hide (fun w=>noughts_any 12 w (by decide))
 obtain ⟨ao,cp,rfl⟩:=h1.len
 obtain ⟨bo,dp,rfl⟩:=h2.len
 obtain ⟨n,hnn⟩:∃ n:Nat,ss.length=n:=⟨_,rfl⟩
 have HNN:=hide hnn
 have HLL:=hide (show bs.length=n by rw[hl,hnn])
 have HZ1:=hide hz1
 have HZ2:=hide hz2
 have HA:=hide (show Ref.unwA master.data.toList ss bs=Ref.unw master.data.toList ss bs n 0 by unfold Ref.unwA;rw[hnn])
 rw[HA.out]
 rw[hl] at H0 ⊢
 rw[hnn] at H0 hn ⊢
 clear hbA hBK h1 h2 ht hz1 hz2 hl hnn HA
 go_enter Tryz.func190,Tryz.ntmps190
 go_wp2_with fail
 refine (HN.out _).mono ?_
 rintro e w1 ⟨rfl,hb1⟩
 have U1:=hide (H0.out.after hb1)
 clear HN H0 hb1
 go_wp2
 go_loopw [7] (fun v wr=>∃ i:Nat,i≤n∧v = .int .i64 (i:Nat)∧UW w (.slice ao n cp) (.slice bo n dp) mac ss bs wr∧Ref.unw master.data.toList ss bs n 0=Ref.unw master.data.toList ss bs (n-i) i) (fun v _=>n-(intOf v).toNat)
 case atStart=>exact ⟨0,Nat.zero_le _,rfl,U1.out,rfl⟩
 case round=>
  clear U1
  obtain ⟨i,hi,rfl,hu,hq⟩:=hrel
  have U:=hide hu
  have c0:=hu.hb.cell (i:=0) rfl
  have c1:=hu.hb.cell (i:=1) rfl
  have HQ:=hide hq
  clear hq
  by_cases hlt:i<n
  ·have jk:(i:Int)<(n:Int):=by omega
   obtain ⟨g,o,c,hv1,hgl,e1⟩:=hu.s1.at i (by rw[HNN.out];exact hlt)
   injection hv1 with hv1 hv1n hv1c
   clear hv1n
   subst hv1
   subst hv1c
   obtain ⟨g2,o2,c2,hv2,hgl2,e2⟩:=hu.s2.at i (by rw[HLL.out];exact hlt)
   injection hv2 with hv2 hv2n hv2c
   clear hv2n
   subst hv2
   subst hv2c
   have z1:=HZ1.out i
   have z2:=HZ2.out i
   have hbd:Ref.body master.data.toList ss bs i=Box.opened (Ref.keyL master.data.toList (ss.getD i ⟨#[]⟩).data.toList Ref.inWrap) (nought 12) [] (bs.getD i ⟨#[]⟩).data.toList:=rfl
   have hun:Ref.unw master.data.toList ss bs (n-i) i=if (Ref.body master.data.toList ss bs i).2=0 then ((Ref.body master.data.toList ss bs i).1,0) else Ref.unw master.data.toList ss bs (n-(i+1)) (i+1):=by
    rw[show n-i=(n-(i+1))+1 by omega,Ref.unw]
   rw[hbd] at hun
   have hlen:g<wr.heap.size∧g2<wr.heap.size:=⟨hgl,hgl2⟩
   generalize ss.getD i ⟨#[]⟩=sk at *
   generalize bs.getD i ⟨#[]⟩=bk at *
   have HK:=hide (kKey_any master sk ⟨#[119,114,97,112]⟩ wr (by omega) (by omega) (by decide) U.out.tb.k U.out.tb.h U.out.tb.two)
   rw[show (expO (macL sk.data.toList master.data.toList) (⟨#[119,114,97,112]⟩:ByteArray).data.toList 1).take 32=Ref.keyL master.data.toList sk.data.toList Ref.inWrap from rfl] at HK
   have hkz:(⟨(Ref.keyL master.data.toList sk.data.toList Ref.inWrap).toArray⟩:ByteArray).size=32:=by rw[two_size,Ref.keyL_len]
   have HO:=hide (fun w=>openAt ⟨(Ref.keyL master.data.toList sk.data.toList Ref.inWrap).toArray⟩ ⟨(nought 12).toArray⟩ bk w hkz rfl (by omega))
   rw[two_toList,two_toList] at HO
   have hoc:=Ref.opened_code (Ref.keyL master.data.toList sk.data.toList Ref.inWrap) (nought 12) [] bk.data.toList
   generalize Box.opened (Ref.keyL master.data.toList sk.data.toList Ref.inWrap) (nought 12) [] bk.data.toList=op at *
   generalize (⟨(Ref.keyL master.data.toList sk.data.toList Ref.inWrap).toArray⟩:ByteArray)=kk at *
   have HUN:=hide hun
   have HLT:=hide hlt
   clear hbd hun z1 z2 hkz hlt hi hu
   obtain ⟨ot,oe⟩:=op
   simp only at hoc HO
   go_wp2_with fail
   refine HK.out.mono ?_
   rintro e w2 ⟨rfl,hb2⟩
   have U2:=hide (U.out.after hb2)
   have d1:=U2.out.hb.cell (i:=1) rfl
   have f2:=(hb2.cell hlen.2).trans e2
   clear hb2 HK U c0 c1 e1 e2
   go_wp2_with fail
   refine (HO.out _).mono ?_
   rintro e w3 ⟨rfl,hb3⟩
   have U3:=hide (U2.out.after hb3)
   clear hb3 HO U2 d1 f2
   rcases hoc with rfl | rfl
   ·go_wp2
    refine bodyPost_ret (results_tmp2 rfl _ _ _) rfl ?_
    refine ⟨?_,U3.out.be⟩
    rw[HQ.out,HUN.out]
    rfl
   ·go_wp2
    go_roundw
    case rel=>
     have hq2:Ref.unw master.data.toList ss bs n 0=Ref.unw master.data.toList ss bs (n-(i+1)) (i+1):=by
      rw[HQ.out,HUN.out,if_neg (by decide)]
     exact ⟨i+1,HLT.out,by go_num,U3.out,hq2⟩
    case measure=>have:=HLT.out;simp[intOf];omega
  ·obtain rfl:i=n:=by omega
   have jk:¬ (i:Int)<(i:Int):=by omega
   clear hu
   go_wp2
   refine bodyPost_ret (results_tmp2 rfl _ _ _) rfl ?_
   refine ⟨?_,U.out.be⟩
   rw[HQ.out,Nat.sub_self,Ref.unw]
   rfl
theorem parAns_facts (t:ByteArray):((Hd.parAns t).2≠0∧(Hd.parAns t).2=6∧(Hd.parAns t).1=Hd.nil)∨((Hd.parAns t).2=0∧Hd.Ok (Hd.parAns t).1.ss (Hd.parAns t).1.bs (Hd.parAns t).1.mac∧t=Hd.ofL (Hd.text (Hd.parAns t).1.ss (Hd.parAns t).1.bs (Hd.parAns t).1.mac)):=by
 rcases Hd.parAns_cases t with h | ⟨ss,bs,m,ho,he,h⟩
 ·rw[h]
  exact .inl ⟨(by decide),rfl,rfl⟩
 ·rw[h]
  exact .inr ⟨rfl,ho,he⟩
theorem getD_size_le {l:List ByteArray} {n m:Nat} (h:∀ i,i<n→(l.getD i ⟨#[]⟩).size=m) (hl:l.length=n) (i:Nat):(l.getD i ⟨#[]⟩).size≤m:=by
 rcases Nat.lt_or_ge i n with h1 | h1
 ·rw[h i h1];exact Nat.le_refl _
 ·rw[List.getD_eq_getElem?_getD,List.getElem?_eq_none (by omega)]
  exact Nat.zero_le _
theorem unwA_len (m:List UInt8) {ss bs:List ByteArray} {mac:ByteArray} (h:Hd.Ok ss bs mac):(Ref.unwA m ss bs).1.length≤32:=by
 refine Ref.unw_len m ss bs (fun i=>?_) _ _
 unfold Hd.at_
 rw[ba_len]
 exact getD_size_le (n:=ss.length) h.hb h.nb i
def hdAns (u:List UInt8 × Int) (t mac:ByteArray):List UInt8 × Int:=
 if u.2≠0 then ([],u.2) else if macL (Ref.keyL u.1 [] Ref.inHead) (t.data.toList.take (t.size-45))≠mac.data.toList then ([],8) else (u.1,0)
theorem opnA_ok {m:List UInt8} {t:ByteArray} {ss bs:List ByteArray} {mac:ByteArray} (h:Hd.parAns t=(⟨ss,bs,mac⟩,0)):Ref.opnA m t=hdAns (Ref.unwA m ss bs) t mac:=by
 unfold Ref.opnA hdAns
 rw[h]
 rfl
theorem opnA_bad {m:List UInt8} {t:ByteArray} (h:Hd.parAns t=(Hd.nil,6)):Ref.opnA m t=([],6):=by
 unfold Ref.opnA
 rw[h]
 rfl
set_option maxRecDepth 100000 in
set_option maxHeartbeats 1600000 in
theorem openHeader_ok (master t:ByteArray) (ss bs:List ByteArray) (mac:ByteArray) (w:World) (ht:Tabs w) (hm:master.size≤1000) (hp:Hd.parAns t=(⟨ss,bs,mac⟩,0)) (hO:Hd.Ok ss bs mac) (hts:45≤t.size) (hz:t.size≤1000):
  Calls Tryz.prog 140 #[.string master,.string t] w fun e w'=>e = .returned (ansV (hdAns (Ref.unwA master.data.toList ss bs) t mac))∧Below w.heap.size w w':=by
 have HPA:=hide (pParse_any t w (by omega))
 rw[hp] at HPA
 have hn3:=hO.n3
 have hz1:=getD_size_le (n:=ss.length) hO.hs rfl
 have hz2:=getD_size_le (n:=ss.length) hO.hb hO.nb
 have hms:mac.size≤1099511627776:=by rw[hO.hm];decide
 have HUL:=hide (unwA_len master.data.toList hO)
 have hcd:(Ref.unwA master.data.toList ss bs).2=0∨Ref.unwA master.data.toList ss bs=([],7):=Ref.unw_code _ _ _ _ _
 have hnb:=hO.nb
 have HUW:=hide (fun vs vb (w':World) (t:Tabs w') (a:Strs w' vs ss) (b:Strs w' vb bs)=>unwrap_any master vs vb mac ss bs w' t a b hnb (by omega) hm (fun i=>Nat.le_trans (hz1 i) (by decide)) (fun i=>Nat.le_trans (hz2 i) (by decide)))
 have HT:=hide ht
 have HMA:=hide (fun (key:ByteArray) (w':World) (tt:Tabs w') (h:key.size≤32)=>macOf_any key t w' tt (by omega) hts (by omega))
 have hml:∀ ut,(macL (Ref.keyL ut [] Ref.inHead) (t.data.toList.take (t.size-45))).length=32:=fun ut=>macL_len _ _
 have HML:=hide hml
 generalize Ref.unwA master.data.toList ss bs=ua at *
 obtain ⟨ut,ue⟩:=ua
 change Hid (∀ vs vb (w':World),Tabs w'→Strs w' vs ss→Strs w' vb bs→Calls Tryz.prog 190 #[.string master,.agg #[vs,vb,.string mac]] w' fun e w''=>e = .returned (.tuple #[.string ⟨ut.toArray⟩,.int .i64 ue])∧Below w'.heap.size w' w'') at HUW
 change Hid (ut.length≤32) at HUL
 change Hid (Calls Tryz.prog 123 #[.string t] w fun e w'=>∃ vs vb,e = .returned (.tuple #[.agg #[vs,vb,.string mac],.int .i64 0]) ∧
   Row w' w.heap.size 9 1 vs ss.length (strV ss)∧Row w' w.heap.size 9 1 vb bs.length (strV bs)∧Below w.heap.size w w') at HPA
 clear ht hz1 hz2 hm hp hO hml hnb hn3
 go_enter Tryz.func140,Tryz.ntmps140
 go_wp2_with fail
 refine HPA.out.mono ?_
 rintro e w1 ⟨vs,vb,rfl,hr1,hr2,hb1⟩
 have hbA:Below w1.heap.size w1 (w1.alloc (.cells #[vs,vb,.string mac] 155)):=(Below.refl _ _).alloc (Nat.le_refl _) _
 have hB2:Blk (w1.alloc (.cells #[vs,vb,.string mac] 155)) w1.heap.size 155 [vs,vb,.string mac]:=Blk.new rfl rfl
 have HU2:=hide (HUW.out vs vb _ ((HT.out.after hb1).after hbA) ((Row.strs hr1).after hbA) ((Row.strs hr2).after hbA))
 have HB2:=hide hB2
 have B2:=hide (hb1.trans (hbA.mono hb1.size))
 have HT2:=hide ((HT.out.after hb1).after hbA)
 obtain ⟨o1,c1,rfl,_⟩:=Row.anyN hr1
 obtain ⟨o2,c2,rfl,_⟩:=Row.anyN hr2
 clear HPA hr1 hr2 hb1 hbA hB2 HUW HT
 rcases hcd with hq | hq
 ·change ue=0 at hq
  subst hq
  go_wp2_with fail
  refine HU2.out.mono ?_
  rintro e w2 ⟨rfl,hb2⟩
  have HB3:=hide (HB2.out.below hb2 HB2.out.lt)
  have B3:=hide (B2.out.trans (hb2.mono B2.out.size))
  have HM3:=hide (HMA.out ⟨ut.toArray⟩ w2 (HT2.out.after hb2) (by rw[two_size];exact HUL.out))
  rw[two_toList] at HM3
  have HD0:=hide (show hdAns (ut,0) t mac=if macL (Ref.keyL ut [] Ref.inHead) (t.data.toList.take (t.size-45))≠mac.data.toList then ([],8) else (ut,0) from rfl)
  have hml:=HML.out ut
  generalize macL (Ref.keyL ut [] Ref.inHead) (t.data.toList.take (t.size-45))=MM at *
  have hMz:(⟨MM.toArray⟩:ByteArray).size≤1099511627776:=by rw[two_size,hml];decide
  clear hb2 HU2 HB2 B2 HT2 HMA hml
  go_wp2_with fail
  refine HM3.out.mono ?_
  rintro e w3 ⟨rfl,hb3⟩
  have HB4:=hide (HB3.out.below hb3 HB3.out.lt)
  have B4:=hide (B3.out.trans (hb3.mono B3.out.size))
  have k2:=HB4.out.cell (i:=2) rfl
  have HSA:=hide (same_any ⟨MM.toArray⟩ mac w3 hMz)
  clear hb3 HM3 HB3 B3 hMz
  by_cases heq:MM=mac.data.toList
  ·have hd:decide ((⟨MM.toArray⟩:ByteArray)=mac)=true:=decide_eq_true (ba_ext heq)
   rw[hd] at HSA
   have HAN:=hide (show hdAns (ut,0) t mac=(ut,0) by rw[HD0.out,if_neg (fun h=>h heq)])
   generalize (⟨MM.toArray⟩:ByteArray)=mm at *
   generalize hub:(⟨ut.toArray⟩:ByteArray)=ub at *
   clear hd heq
   go_wp2_with fail
   refine HSA.out.mono ?_
   rintro e w4 ⟨rfl,m4,rfl⟩
   clear HSA
   go_wp2
   refine bodyPost_ret (results_tmp2 rfl _ _ _) rfl ?_
   exact ⟨by rw[HAN.out];unfold ansV;rw[hub];rfl,below_drewN B4.out m4⟩
  ·have hd:decide ((⟨MM.toArray⟩:ByteArray)=mac)=false:=decide_eq_false (fun h=>heq (by rw[←h]))
   rw[hd] at HSA
   have HAN:=hide (show hdAns (ut,0) t mac=([],8) by rw[HD0.out,if_pos heq])
   generalize (⟨MM.toArray⟩:ByteArray)=mm at *
   generalize (⟨ut.toArray⟩:ByteArray)=ub at *
   clear hd heq
   go_wp2_with fail
   refine HSA.out.mono ?_
   rintro e w4 ⟨rfl,m4,rfl⟩
   clear HSA
   go_wp2
   refine bodyPost_ret (results_tmp2 rfl _ _ _) rfl ?_
   exact ⟨by rw[HAN.out];rfl,below_drewN B4.out m4⟩
 ·injection hq with hq1 hq2
  subst hq1
  subst hq2
  go_wp2_with fail
  refine HU2.out.mono ?_
  rintro e w2 ⟨rfl,hb2⟩
  have B3:=hide (B2.out.trans (hb2.mono B2.out.size))
  clear hb2 HU2 HB2 B2 HT2 HMA
  go_wp2
  refine bodyPost_ret (results_tmp2 rfl _ _ _) rfl ?_
  exact ⟨rfl,B3.out⟩
set_option maxRecDepth 100000 in
set_option maxHeartbeats 1600000 in
theorem openHeader_any (master t:ByteArray) (w:World) (ht:Tabs w) (hm:master.size≤1000) (hz:t.size≤1000):
  Calls Tryz.prog 140 #[.string master,.string t] w fun e w'=>e = .returned (.tuple #[.string ⟨(Ref.opnA master.data.toList t).1.toArray⟩,.int .i64 (Ref.opnA master.data.toList t).2])∧Below w.heap.size w w':=by
 rcases Hd.parAns_cases t with h | ⟨ss,bs,mac,hO,hT,h⟩
 ·have HPA:=hide (pParse_any t w (by omega))
  rw[h] at HPA
  rw[opnA_bad h]
  clear h
  go_enter Tryz.func140,Tryz.ntmps140
  go_wp2_with fail
  refine HPA.out.mono ?_
  rintro e w1 ⟨vs,vb,rfl,hr1,hr2,hb1⟩
  obtain ⟨o1,c1,rfl,_⟩:=Row.anyN hr1
  obtain ⟨o2,c2,rfl,_⟩:=Row.anyN hr2
  have B1:=hide hb1
  have hsz:=hb1.size
  clear HPA hr1 hr2 hb1
  go_wp2
  refine bodyPost_ret (results_tmp2 rfl _ _ _) rfl ?_
  exact ⟨rfl,B1.out.alloc hsz _⟩
 ·have hts:t.size=59+75*ss.length:=by
   have:=hO.size_eq
   rw[←hT] at this
   exact this
  rw[opnA_ok h]
  exact openHeader_ok master t ss bs mac w ht hm h hO (by omega) hz
def Ref.opsA (m:List UInt8) (ss bs:List ByteArray) (mac:ByteArray):List UInt8 × Int:=
 if (Ref.unwA m ss bs).2≠0 then ([],7) else if Ref.macH (Ref.unwA m ss bs).1 ss bs≠mac.data.toList then ([],8) else ((Ref.unwA m ss bs).1,0)
theorem opsA_eq {m:List UInt8} {t:ByteArray} {ss bs:List ByteArray} {mac:ByteArray} (hp:Hd.parAns t=(⟨ss,bs,mac⟩,0)) (hO:Hd.Ok ss bs mac) (ht:t=Hd.ofL (Hd.text ss bs mac)):Ref.opnA m t=Ref.opsA m ss bs mac:=by
 have htl:t.data.toList=Hd.text ss bs mac:=by rw[ht];rfl
 have hts:t.size=(Hd.text ss bs mac).length:=by rw[←ba_len,htl]
 rw[opnA_ok hp]
 unfold hdAns Ref.opsA Ref.macH
 rw[htl,hts,Ref.text_top hO]
 by_cases h:(Ref.unwA m ss bs).2≠0
 ·rw[if_pos h,if_pos h]
  rcases Ref.unw_code m ss bs ss.length 0 with q | q
  ·exact absurd q h
  ·show ([],(Ref.unw m ss bs ss.length 0).2)=_
   rw[q]
 ·rw[if_neg h,if_neg h]
structure OpS (w:World) (hb:Nat) (vs vb:Value) (mac:ByteArray) (ss bs:List ByteArray) (wi:World):Prop where
 hd:Blk wi hb 155 [vs,vb,.string mac]
 be:Below w.heap.size w wi
 s1:Strs wi vs ss
 s2:Strs wi vb bs
theorem OpS.after {w:World} {hb:Nat} {vs vb:Value} {mac:ByteArray} {ss bs:List ByteArray} {wi wj:World} (h:OpS w hb vs vb mac ss bs wi) (hb2:Below wi.heap.size wi wj):OpS w hb vs vb mac ss bs wj:=
 ⟨h.hd.below hb2 h.hd.lt,h.be.trans (hb2.mono h.be.size),h.s1.after hb2,h.s2.after hb2⟩
set_option maxRecDepth 100000 in
set_option maxHeartbeats 1600000 in
theorem refOpens_any (master:ByteArray) (hb:Nat) (vs vb:Value) (mac:ByteArray) (ss bs:List ByteArray) (w:World) (h0:OpS w hb vs vb mac ss bs w) (hO:Hd.Ok ss bs mac) (hm:master.size≤1000000000):
  Calls Tryz.prog 144 #[.string master,.pointer (some ⟨hb,0,none⟩)] w fun e w'=>e = .returned (ansV (Ref.opsA master.data.toList ss bs mac))∧Below w.heap.size w w':=by
 have hn3:=hO.n3
 have H0:=hide h0
 obtain ⟨ao,cp,rfl⟩:=h0.s1.len
 obtain ⟨bo,dp,rfl⟩:=h0.s2.len
 obtain ⟨n,hnn⟩:∃ n:Nat,ss.length=n:=⟨_,rfl⟩
 have hll:bs.length=n:=by rw[hO.nb,hnn]
 have hz1:∀ x ∈ ss,x.size≤1000:=fun x hx=>by
  obtain ⟨i,hi,rfl⟩:=List.getElem_of_mem hx
  have:=hO.hs i hi
  rw[List.getD_eq_getElem?_getD,List.getElem?_eq_getElem hi] at this
  exact Nat.le_trans (Nat.le_of_eq this) (by decide)
 have hz2:∀ x ∈ bs,x.size≤1000:=fun x hx=>by
  obtain ⟨i,hi,rfl⟩:=List.getElem_of_mem hx
  have:=hO.hb i (by rw[←hO.nb];exact hi)
  rw[List.getD_eq_getElem?_getD,List.getElem?_eq_getElem hi] at this
  exact Nat.le_trans (Nat.le_of_eq this) (by decide)
 have HMC:=hide (fun (key:ByteArray) (w':World) (h:OpS w hb (.slice ao ss.length cp) (.slice bo bs.length dp) mac ss bs w') (hk:key.size≤1000)=>refMac_any key hb _ _ mac ss bs w' h.hd h.s1 h.s2 hO.nb (by omega) hz1 hz2 (by omega))
 rw[hll,hnn] at HMC
 have HNN:=hide hnn
 have HLL:=hide hll
 have HO:=hide hO
 have HA:=hide (show Ref.unwA master.data.toList ss bs=Ref.unw master.data.toList ss bs n 0 by unfold Ref.unwA;rw[hnn])
 have HV:=hide (show Ref.opsA master.data.toList ss bs mac=if (Ref.unw master.data.toList ss bs n 0).2≠0 then ([],7) else if Ref.macH (Ref.unw master.data.toList ss bs n 0).1 ss bs≠mac.data.toList then ([],8) else ((Ref.unw master.data.toList ss bs n 0).1,0) by unfold Ref.opsA;rw[HA.out])
 generalize hRR:Ref.opsA master.data.toList ss bs mac=RR at *
 rw[hll] at H0
 rw[hnn] at H0 hn3
 have HM:=hide hm
 clear h0 hO hnn hll hm HA hz1 hz2 hRR
 go_enter Tryz.func144,Tryz.ntmps144
 go_wp2
 go_loopw [6] (fun v wr=>∃ i:Nat,i≤n∧v = .int .i64 (i:Nat)∧OpS w hb (.slice ao n cp) (.slice bo n dp) mac ss bs wr∧Ref.unw master.data.toList ss bs n 0=Ref.unw master.data.toList ss bs (n-i) i) (fun v _=>n-(intOf v).toNat)
 case atStart=>exact ⟨0,Nat.zero_le _,rfl,H0.out,rfl⟩
 case round=>
  clear H0
  obtain ⟨i,hi,rfl,hu,hq⟩:=hrel
  have U:=hide hu
  have HQ:=hide hq
  have c0:=hu.hd.cell (i:=0) rfl
  have c1:=hu.hd.cell (i:=1) rfl
  clear hq
  by_cases hlt:i<n
  ·have jk:(i:Int)<(n:Int):=by omega
   obtain ⟨g,o,c,hv1,hgl,e1⟩:=hu.s1.at i (by rw[HNN.out];exact hlt)
   injection hv1 with hv1 hv1n hv1c
   clear hv1n
   subst hv1
   subst hv1c
   obtain ⟨g2,o2,c2,hv2,hgl2,e2⟩:=hu.s2.at i (by rw[HLL.out];exact hlt)
   injection hv2 with hv2 hv2n hv2c
   clear hv2n
   subst hv2
   subst hv2c
   have z1:=HO.out.hs i (by rw[HNN.out];exact hlt)
   have z2:=HO.out.hb i (by rw[HNN.out];exact hlt)
   have hbd:Ref.body master.data.toList ss bs i=Box.opened (Ref.keyL master.data.toList (ss.getD i ⟨#[]⟩).data.toList Ref.inWrap) (nought 12) [] (bs.getD i ⟨#[]⟩).data.toList:=rfl
   have hun:Ref.unw master.data.toList ss bs (n-i) i=if (Ref.body master.data.toList ss bs i).2=0 then ((Ref.body master.data.toList ss bs i).1,0) else Ref.unw master.data.toList ss bs (n-(i+1)) (i+1):=by
    rw[show n-i=(n-(i+1))+1 by omega,Ref.unw]
   rw[hbd] at hun
   generalize ss.getD i ⟨#[]⟩=sk at *
   generalize bs.getD i ⟨#[]⟩=bk at *
   have hmm:=HM.out
   have HK:=hide (refKey_any master sk ⟨#[119,114,97,112]⟩ wr (by omega) (by omega) (by decide))
   rw[show (expO (macL sk.data.toList master.data.toList) (⟨#[119,114,97,112]⟩:ByteArray).data.toList 1).take 32=Ref.keyL master.data.toList sk.data.toList Ref.inWrap from rfl] at HK
   have hkz:(⟨(Ref.keyL master.data.toList sk.data.toList Ref.inWrap).toArray⟩:ByteArray).size=32:=by rw[two_size,Ref.keyL_len]
   have HOP:Hid (∀ w,Calls Tryz.prog 56 #[.string ⟨(Ref.keyL master.data.toList sk.data.toList Ref.inWrap).toArray⟩,.string ⟨#[0,0,0,0,0,0,0,0,0,0,0,0]⟩,.string ⟨#[]⟩,.string bk] w fun e w'=>e = .returned (.tuple #[.string ⟨(Box.opened (Ref.keyL master.data.toList sk.data.toList Ref.inWrap) (nought 12) [] bk.data.toList).1.toArray⟩,.int .i64 (Box.opened (Ref.keyL master.data.toList sk.data.toList Ref.inWrap) (nought 12) [] bk.data.toList).2])∧Below w.heap.size w w'):=hide (fun w=>refOpenAt ⟨(Ref.keyL master.data.toList sk.data.toList Ref.inWrap).toArray⟩ ⟨(nought 12).toArray⟩ bk w hkz rfl (by omega))
   have hoc:=Ref.opened_code (Ref.keyL master.data.toList sk.data.toList Ref.inWrap) (nought 12) [] bk.data.toList
   have hol:=Ref.opened_len (Ref.keyL master.data.toList sk.data.toList Ref.inWrap) (nought 12) [] bk.data.toList
   rw[ba_len,z2] at hol
   generalize Box.opened (Ref.keyL master.data.toList sk.data.toList Ref.inWrap) (nought 12) [] bk.data.toList=op at *
   generalize (⟨(Ref.keyL master.data.toList sk.data.toList Ref.inWrap).toArray⟩:ByteArray)=kk at *
   have HUN:=hide hun
   have HLT:=hide hlt
   clear hbd hun hkz hlt hi hu hmm z1 z2
   obtain ⟨ot,oe⟩:=op
   simp only at hoc HOP hol
   go_wp2_with fail
   refine HK.out.mono ?_
   rintro e w2 ⟨rfl,hb2⟩
   have U2:=hide (U.out.after hb2)
   have d1:=U2.out.hd.cell (i:=1) rfl
   have f2:=(hb2.cell hgl2).trans e2
   clear hb2 HK U c0 c1 e1 e2
   go_wp2_with fail
   refine (HOP.out _).mono ?_
   rintro e w3 ⟨rfl,hb3⟩
   have U3:=hide (U2.out.after hb3)
   clear hb3 HOP U2 d1 f2
   rcases hoc with rfl | rfl
   ·have HMA:=hide (HMC.out ⟨ot.toArray⟩ w3 U3.out (by rw[two_size];omega))
    rw[two_toList] at HMA
    have hq1:Ref.unw master.data.toList ss bs n 0=(ot,0):=by rw[HQ.out,HUN.out];rfl
    have HQ1:=hide hq1
    generalize hOT:(⟨ot.toArray⟩:ByteArray)=OT at *
    have HOT:=hide hOT
    clear hOT
    by_cases hmc:Ref.macH ot ss bs=mac.data.toList
    ·rw[hmc,show (⟨mac.data.toList.toArray⟩:ByteArray)=mac from ba_ext rfl] at HMA
     have HEQ:=hide hmc
     clear hmc hq1 HMC
     go_wp2_with fail
     refine HMA.out.mono ?_
     rintro e w4 ⟨rfl,hb4⟩
     have U4:=hide (U3.out.after hb4)
     have d2:=U4.out.hd.cell (i:=2) rfl
     clear hb4 HMA U3
     go_wp2
     refine bodyPost_ret (results_tmp2 rfl _ _ _) rfl ?_
     exact ⟨by rw[HV.out,HQ1.out,if_neg (by simp),if_neg (fun q=>q HEQ.out)];unfold ansV;rw[HOT.out];rfl,U4.out.be⟩
    ·have HEQ:=hide hmc
     have zt:((⟨(Ref.macH ot ss bs).toArray⟩:ByteArray).toList==mac.toList)=false:=str_ne hmc
     generalize (⟨(Ref.macH ot ss bs).toArray⟩:ByteArray)=mm at *
     clear hmc hq1 HMC
     go_wp2_with fail
     refine HMA.out.mono ?_
     rintro e w4 ⟨rfl,hb4⟩
     have U4:=hide (U3.out.after hb4)
     have d2:=U4.out.hd.cell (i:=2) rfl
     clear hb4 HMA U3
     go_wp2
     refine bodyPost_ret (results_tmp2 rfl _ _ _) rfl ?_
     exact ⟨by rw[HV.out,HQ1.out,if_neg (by simp),if_pos HEQ.out];rfl,U4.out.be⟩
   ·go_wp2
    go_roundw
    case rel=>
     have hq2:Ref.unw master.data.toList ss bs n 0=Ref.unw master.data.toList ss bs (n-(i+1)) (i+1):=by
      rw[HQ.out,HUN.out,if_neg (by decide)]
     exact ⟨i+1,HLT.out,by go_num,U3.out,hq2⟩
    case measure=>have:=HLT.out;simp[intOf];omega
  ·obtain rfl:i=n:=by omega
   have jk:¬ (i:Int)<(i:Int):=by omega
   have hq1:Ref.unw master.data.toList ss bs i 0=([],7):=by rw[HQ.out,Nat.sub_self,Ref.unw]
   have HQ1:=hide hq1
   clear hu HMC hq1
   go_wp2
   refine bodyPost_ret (results_tmp2 rfl _ _ _) rfl ?_
   exact ⟨by rw[HV.out,HQ1.out,if_pos (by decide)];rfl,U.out.be⟩
def rdCells (src:Value) (key:ByteArray) (n:Nat) (ahead text:ByteArray) (e:Int):List Value:=[src,.string key,.int .u64 (n:Nat),.string ahead,.string text,.int .i64 e]
theorem res_none {fn:Func} (h:fn.results = #[]) (tmps:Array Value) (P:Program) (w:World):(results fn tmps).run P w = .ok (.tuple #[]) w:=by simp[results,h]
theorem infoRd:(Tryz.prog.info? 183).map (·.size)=some 6:=by kernel_rfl
theorem rd_one (text:ByteArray) (e:Int):((rdCells (.pointer none) ⟨#[]⟩ 0 ⟨#[]⟩ text e).toArray).all (·.oneCell')=true:=by simp[rdCells,Value.oneCell']
set_option maxRecDepth 100000 in
set_option maxHeartbeats 1600000 in
theorem finishR_any (rb:Nat) (old:List Value) (text:ByteArray) (e:Int) (w:World) (hB:Blk w rb 183 old) (hl:old.length=6):
  Calls Tryz.prog 199 #[.pointer (some ⟨rb,0,none⟩),.string text,.int .i64 e] w fun _e w'=>(∃ v,_e = .returned v)∧Blk w' rb 183 (rdCells (.pointer none) ⟨#[]⟩ 0 ⟨#[]⟩ text e)∧w.grownBy w' (some rb):=by
 have HB:=hide hB
 have HL:=hide hl
 clear hB hl
 go_enter Tryz.func199,Tryz.ntmps199
 go_wp2_with (refine wpList_store_blk rfl 183 (.tmp 10) (.tmp 9) rfl rb 0 (rdCells (.pointer none) ⟨#[]⟩ 0 ⟨#[]⟩ text e).toArray rfl rfl infoRd (rd_one text e) 183 old HB.out (by rw[HL.out];exact Nat.le_refl 6) ?_;intro wz hBz hGz)
 refine bodyPost_end (v:=.tuple #[]) (by simp[results,Tryz.results199]) rfl ?_
 refine ⟨⟨_,rfl⟩,?_,hGz⟩
 rw[laidOver_all _ _ (by rw[HL.out];rfl)] at hBz
 exact hBz
def lastCells (o:List UInt8 × Int):List Value:=if o.2≠0 then rdCells (.pointer none) ⟨#[]⟩ 0 ⟨#[]⟩ ⟨#[]⟩ o.2 else rdCells (.pointer none) ⟨#[]⟩ 0 ⟨#[]⟩ ⟨o.1.toArray⟩ 13
set_option maxRecDepth 100000 in
set_option maxHeartbeats 3200000 in
theorem openLast_any (rb:Nat) (src:Value) (key:ByteArray) (n:Nat) (ahead text:ByteArray) (e0:Int) (bx:ByteArray) (w:World) (hB:Blk w rb 183 (rdCells src key n ahead text e0)) (hk:key.size=32) (hn:n≤1125899906842624) (hb:bx.size≤1000):
  Calls Tryz.prog 200 #[.pointer (some ⟨rb,0,none⟩),.string bx] w fun e w'=>(∃ v,e = .returned v)∧Blk w' rb 183 (lastCells (Ref.opnC key.data.toList n true bx.data.toList))∧w.grownBy w' (some rb):=by
 have HOC:=hide (fun w=>openChunk_any key n true bx w hk hn (by omega))
 have hrl:=hB.lt
 have HB:=hide hB
 have c1:=hB.cell (i:=1) rfl
 have c2:=hB.cell (i:=2) rfl
 unfold ansV at HOC
 generalize Ref.opnC key.data.toList n true bx.data.toList=op at *
 obtain ⟨ot,oe⟩:=op
 simp only at HOC
 clear hB hk hb
 go_enter Tryz.func200,Tryz.ntmps200
 go_wp2
 go_region_held3 (fun w'=>w'.cell? ⟨rb,1,none⟩=some (.string key)∧w'.cell? ⟨rb,2,none⟩=some (.int .u64 (n:Nat))) (refine ⟨?_,?_⟩ <;> first | assumption | (exact (hb2.cell hrl).trans (by assumption))) ((go_at_call 195;refine (HOC.out _).mono ?_;rintro e w2 ⟨rfl,hb2⟩))
 rename_i hH
 clear hH
 have hbd:Below w.heap.size w w2:=(show Below w.heap.size w w.drew from ⟨rfl,rfl,rfl,Nat.le_refl _,fun _ _=>rfl⟩).trans hb2
 have HB2:=hide (HB.out.below hbd hrl)
 have G2:=hide (grown_below (World.grownBy.refl w (some rb)) hbd)
 clear hb2 hbd HB HOC c1 c2
 by_cases hoe:oe=0
 ·subst hoe
  have HF:=hide (finishR_any rb _ ⟨ot.toArray⟩ 13 w2 HB2.out rfl)
  generalize hbt:(⟨ot.toArray⟩:ByteArray)=bt at *
  go_wp2_with fail
  refine HF.out.mono ?_
  rintro e w3 ⟨⟨v3,rfl⟩,hB3,hG3⟩
  have HB3:=hide hB3
  have G3:=hide (grown_trans G2.out hG3 (fun k hk=>.inr (by injection hk with hk;exact hk.symm)))
  clear HF hB3 hG3 HB2 G2
  go_wp2
  first | refine bodyPost_ret (res_none Tryz.results200 _ _ _) rfl ?_ | refine bodyPost_end (res_none Tryz.results200 _ _ _) rfl ?_
  refine ⟨⟨_,rfl⟩,?_,G3.out⟩
  unfold lastCells
  rw[if_neg (by simp),hbt]
  exact HB3.out
 ·have z1:(oe != 0)=true:=by rw[bne_iff_ne];exact hoe
  have HF:=hide (finishR_any rb _ ⟨#[]⟩ oe w2 HB2.out rfl)
  have HOE:=hide hoe
  generalize (⟨ot.toArray⟩:ByteArray)=bt at *
  clear hoe
  go_wp2_with fail
  refine HF.out.mono ?_
  rintro e w3 ⟨⟨v3,rfl⟩,hB3,hG3⟩
  have HB3:=hide hB3
  have G3:=hide (grown_trans G2.out hG3 (fun k hk=>.inr (by injection hk with hk;exact hk.symm)))
  clear HF hB3 hG3 HB2 G2
  go_wp2
  first | refine bodyPost_ret (res_none Tryz.results200 _ _ _) rfl ?_ | refine bodyPost_end (res_none Tryz.results200 _ _ _) rfl ?_
  refine ⟨⟨_,rfl⟩,?_,G3.out⟩
  unfold lastCells
  rw[if_pos HOE.out]
  exact HB3.out
theorem gather_two (b g:Nat) (x:Src) (got:ByteArray) (n:Nat) (w:World) (h:SrcRep b g x w) (hgot:got.size≤n) (hn:n≤1000):
  Calls Tryz.prog 141 #[.pointer (some ⟨b,0,none⟩),.string got,.int .i64 (n:Nat)] w fun e w'=>
   ∃ y c gs ge,Src.Ask x (n-got.size) y c∧e = .returned (.tuple #[.string gs,.int .i64 ge])∧SrcRep b g y w'∧w.grownBy w' (some b)∧(c=2→gs=⟨#[]⟩∧ge=17)∧(c≠2→gs=gotS got x y∧ge=0):=by
 refine (gather_any b g x got n w h hgot hn).mono ?_
 rintro e w' ⟨y,c,hA,rfl,hS,hG⟩
 exact ⟨y,c,_,_,hA,rfl,hS,hG,fun h=>by rw[if_pos h,if_pos h];exact ⟨rfl,rfl⟩,fun h=>by rw[if_neg h,if_neg h];exact ⟨rfl,rfl⟩⟩
structure RdRep (rb b:Nat) (r:Ref.Rd) (w:World):Prop where
 hb:Blk w rb 183 (rdCells (if r.e=0 then .pointer (some ⟨b,0,none⟩) else .pointer none) ⟨r.key.toArray⟩ r.n ⟨r.ahead.toArray⟩ ⟨r.text.toArray⟩ r.e)
 ok:r.e=0→r.key.length=32∧r.ahead.length≤1
 tx:r.text.length≤1000
theorem SrcRep.after {b g:Nat} {x:Src} {w w':World} (h:SrcRep b g x w) (hb:Below w.heap.size w w'):SrcRep b g x w':=⟨h.hb.below hb h.hb.lt,h.hg.below hb h.hg.lt,h.sz,h.at_,h.pl,h.st⟩
theorem SrcRep.keep {b g rb:Nat} {x:Src} {w w':World} (h:SrcRep b g x w) (hg:w.grownBy w' (some rb)) (hrb:rb≠b) (hrg:rb≠g):SrcRep b g x w':=⟨h.hb.grown hg (fun e=>hrb (by injection e with e;exact e.symm)),h.hg.grown hg (fun e=>hrg (by injection e with e;exact e.symm)),h.sz,h.at_,h.pl,h.st⟩
set_option maxRecDepth 100000 in
set_option maxHeartbeats 6400000 in
theorem openNext_any (rb b g:Nat) (r:Ref.Rd) (w:World) (hR:RdRep rb b r w) (hS:SrcRep b g r.x w) (hrb:rb≠b) (hrg:rb≠g) (he:r.e=0) (ht:r.text=[]) (hn:r.n<1125899906842624):
  Calls Tryz.prog 153 #[.pointer (some ⟨rb,0,none⟩)] w fun e w'=>(∃ v,e = .returned v)∧∃ y c,Src.Ask r.x (33-r.ahead.length) y c∧RdRep rb b (r.opn y c) w'∧SrcRep b g y w'∧Chg (fun x=>x=rb∨x=b) w w':=by
 obtain ⟨hB,hok,_⟩:=hR
 obtain ⟨hkl,hal⟩:=hok he
 rw[if_pos he,he,ht] at hB
 have hrl:=hB.lt
 have hdr:Below w.heap.size w w.drew:=⟨rfl,rfl,rfl,Nat.le_refl _,fun _ _=>rfl⟩
 have hSd:SrcRep b g r.x w.drew:=⟨hS.hb.below hdr hS.hb.lt,hS.hg.below hdr hS.hg.lt,hS.sz,hS.at_,hS.pl,hS.st⟩
 have haz:(⟨r.ahead.toArray⟩:ByteArray).size=r.ahead.length:=two_size _
 have hkz:(⟨r.key.toArray⟩:ByteArray).size=32:=by rw[two_size,hkl]
 have HGA:=hide (gather_two b g r.x ⟨r.ahead.toArray⟩ 33 w.drew hSd (by rw[haz];omega) (by decide))
 rw[haz] at HGA
 have HB:=hide hB
 have c0:=hB.cell (i:=0) rfl
 have c3:=hB.cell (i:=3) rfl
 have HXA:=hide hS.at_
 have HAL:=hide hal
 have HN:=hide hn
 have HAZ:=hide haz
 have HE:=hide he
 have hgot:∀ y:Src,(gotS ⟨r.ahead.toArray⟩ r.x y).data.toList=r.ahead++(r.x.s.extract r.x.at_ y.at_).data.toList:=fun y=>by unfold gotS;rw[ba_list]
 have HGOT:=hide hgot
 generalize hah:(⟨r.ahead.toArray⟩:ByteArray)=ah at *
 clear hB hS hSd hok he ht hdr hgot hal
 go_enter Tryz.func153,Tryz.ntmps153
 go_wp2
 go_region_held3 (fun w'=>w'.cell? ⟨rb,0,none⟩=some (.pointer (some ⟨b,0,none⟩))∧w'.cell? ⟨rb,3,none⟩=some (.string ah)) (refine ⟨?_,?_⟩ <;> first | assumption | (exact World.grownBy.cell hG2 (by assumption) (fun e=>hrb (by injection e)))) ((go_at_call 141;refine HGA.out.mono ?_;rintro e w2 ⟨y,c,gs,ge,hA,rfl,hS2,hG2,hg2,hgn⟩))
 rename_i hH
 clear hH
 have hbd:w.grownBy w2 (some b):=below_grown (show Below w.heap.size w w.drew from ⟨rfl,rfl,rfl,Nat.le_refl _,fun _ _=>rfl⟩) hG2
 have HB2:=hide (HB.out.grown hbd (fun e=>hrb (by injection e)))
 have L:=hA.left HXA.out
 have C2:=hide (Chg.of_grown (S:=fun x=>x=rb∨x=b) hbd (.inr rfl))
 have HA:=hide hA
 have HS2:=hide hS2
 have hge:=L.ge
 have hsz:=L.size
 rw[L.s] at hsz
 have hle:=L.le
 have hcode:=L.code
 have hgs:=gotS_size (got:=ah) hge hsz
 rw[HAZ.out] at hgs
 clear hA hS2 hG2 hbd HGA HB c0 c3 L
 by_cases hc2:c=2
 ·subst hc2
  obtain ⟨rfl,rfl⟩:=hg2 rfl
  have HF:=hide (finishR_any rb _ ⟨#[]⟩ 17 w2 HB2.out rfl)
  clear hgs
  go_wp2_with fail
  refine HF.out.mono ?_
  rintro e w3 ⟨⟨v3,rfl⟩,hB3,hG3⟩
  have HB3:=hide hB3
  have C3:=hide (C2.out.grew hG3 (.inl (.inl rfl)))
  have HS3:=hide (SrcRep.keep HS2.out hG3 hrb hrg)
  clear HF hB3 hG3 HB2 C2 HS2
  go_wp2
  first | refine bodyPost_ret (res_none Tryz.results153 _ _ _) rfl ?_ | refine bodyPost_end (res_none Tryz.results153 _ _ _) rfl ?_
  refine ⟨⟨_,rfl⟩,y,2,HA.out,?_,HS3.out,C3.out⟩
  unfold Ref.Rd.opn
  rw[if_pos rfl]
  exact ⟨HB3.out,fun h=>absurd (show (17:Int)=0 from h) (by decide),Nat.zero_le _⟩
 ·obtain ⟨rfl,rfl⟩:=hgn hc2
  obtain ⟨Q,hQ⟩:∃ q:Nat,r.ahead.length+(y.at_-r.x.at_)=q:=⟨_,rfl⟩
  have hopn:r.opn y c=if Q=0 then ⟨y,[],0,[],[],10⟩
   else if Q≤32 then (if (Ref.opnC r.key r.n true (gotS ah r.x y).data.toList).2≠0 then ⟨y,[],0,[],[],(Ref.opnC r.key r.n true (gotS ah r.x y).data.toList).2⟩ else ⟨y,[],0,[],(Ref.opnC r.key r.n true (gotS ah r.x y).data.toList).1,13⟩)
   else if (Ref.opnC r.key r.n false ((gotS ah r.x y).data.toList.take 32)).2≠0 then ⟨y,[],0,[],[],(Ref.opnC r.key r.n false ((gotS ah r.x y).data.toList.take 32)).2⟩
   else ⟨y,r.key,r.n+1,(gotS ah r.x y).data.toList.drop 32,(Ref.opnC r.key r.n false ((gotS ah r.x y).data.toList.take 32)).1,0⟩:=by
   rw[HGOT.out y,←hQ]
   show Ref.Rd.opn r y c=_
   unfold Ref.Rd.opn
   rw[if_neg hc2]
  rw[hQ] at hgs
  have hQ33:Q≤33:=by have:=HAL.out;omega
  have HOPN:=hide hopn
  generalize gotS ah r.x y=GT at *
  clear hopn hQ hc2
  by_cases hq0:Q=0
  ·have hGT:GT=ByteArray.empty:=ba_ext (by
    have h0:GT.data.toList.length=0:=by rw[ba_len];omega
    rw[List.eq_nil_of_length_eq_zero h0]
    rfl)
   subst hGT
   have HF:=hide (finishR_any rb _ ⟨#[]⟩ 10 w2 HB2.out rfl)
   have HQ0:=hide hq0
   clear hgs hq0
   go_wp2_with fail
   refine HF.out.mono ?_
   rintro e w3 ⟨⟨v3,rfl⟩,hB3,hG3⟩
   have HB3:=hide hB3
   have C3:=hide (C2.out.grew hG3 (.inl (.inl rfl)))
   have HS3:=hide (SrcRep.keep HS2.out hG3 hrb hrg)
   clear HF hB3 hG3 HB2 C2 HS2
   go_wp2
   first | refine bodyPost_ret (res_none Tryz.results153 _ _ _) rfl ?_ | refine bodyPost_end (res_none Tryz.results153 _ _ _) rfl ?_
   refine ⟨⟨_,rfl⟩,y,c,HA.out,?_,HS3.out,C3.out⟩
   rw[HOPN.out,if_pos HQ0.out]
   exact ⟨HB3.out,fun h=>absurd (show (10:Int)=0 from h) (by decide),Nat.zero_le _⟩
  ·have zg:GT.toList.isEmpty=false:=str_isne (fun e=>hq0 (by
    have h0:GT.data.toList.length=0:=by rw[e];rfl
    rw[ba_len] at h0
    omega))
   by_cases hq32:Q≤32
   ·have jq:(GT.size:Int)≤32:=by omega
    have HOL:=hide (openLast_any rb _ ⟨r.key.toArray⟩ r.n ah ⟨#[]⟩ 0 GT w2 HB2.out hkz (by have:=HN.out;omega) (by omega))
    rw[two_toList] at HOL
    have HQ:=hide (And.intro hq0 hq32)
    clear hq0 hq32
    go_wp2_with fail
    refine HOL.out.mono ?_
    rintro e w3 ⟨⟨v3,rfl⟩,hB3,hG3⟩
    have HB3:=hide hB3
    have C3:=hide (C2.out.grew hG3 (.inl (.inl rfl)))
    have HS3:=hide (SrcRep.keep HS2.out hG3 hrb hrg)
    have hoc:=Ref.opnC_cases r.key r.n true GT.data.toList
    have HOC:=hide hoc
    clear HOL hB3 hG3 HB2 C2 HS2 hoc
    go_wp2
    first | refine bodyPost_ret (res_none Tryz.results153 _ _ _) rfl ?_ | refine bodyPost_end (res_none Tryz.results153 _ _ _) rfl ?_
    refine ⟨⟨_,rfl⟩,y,c,HA.out,?_,HS3.out,C3.out⟩
    rw[HOPN.out,if_neg HQ.out.1,if_pos HQ.out.2]
    have hB3:=HB3.out
    unfold lastCells at hB3
    have hglen:GT.data.toList.length≤33:=by rw[ba_len];omega
    rcases HOC.out with ⟨h0,h1,_,_⟩ | ⟨h0,h1⟩
    ·rw[if_neg (by rw[h0];simp)] at hB3 ⊢
     exact ⟨hB3,fun h=>absurd (show (13:Int)=0 from h) (by decide),by show (Ref.opnC r.key r.n true GT.data.toList).1.length≤1000;omega⟩
    ·rw[if_pos h0] at hB3 ⊢
     refine ⟨?_,fun h=>absurd h h0,by show 0≤1000;decide⟩
     show Blk _ _ _ (rdCells (if (Ref.opnC r.key r.n true GT.data.toList).2=0 then _ else _) _ _ _ _ _)
     rw[if_neg h0]
     exact hB3
   ·have hq33:Q=33:=by omega
    have jq:¬ (GT.size:Int)≤32:=by omega
    have j32:(32:Int)≤(GT.size:Int):=by omega
    have hx32:(GT.extract 0 32).size≤1000:=by rw[ByteArray.size_extract];omega
    have HOC:=hide (fun w=>openChunk_any ⟨r.key.toArray⟩ r.n false (GT.extract 0 32) w hkz (by have:=HN.out;omega) (by omega))
    rw[two_toList,ext_take] at HOC
    unfold ansV at HOC
    have hoc:=Ref.opnC_cases r.key r.n false (GT.data.toList.take 32)
    have hl32:(GT.data.toList.take 32).length=32:=by rw[List.length_take,ba_len];omega
    rw[hl32] at hoc
    have HQ:=hide (And.intro hq0 hq32)
    have d1:=HB2.out.cell (i:=1) rfl
    have d2:=HB2.out.cell (i:=2) rfl
    generalize Ref.opnC r.key r.n false (GT.data.toList.take 32)=op at *
    obtain ⟨ot,oe⟩:=op
    simp only at HOC hoc HOPN
    have hrl2:rb<w2.heap.size:=HB2.out.lt
    have hkk:=hide (show (⟨r.key.toArray⟩:ByteArray).data.toList=r.key from two_toList _)
    have HKL:=hide hkl
    generalize hkb:(⟨r.key.toArray⟩:ByteArray)=kb at *
    clear hq0 hq32 hl32 hkk
    go_wp2
    go_region_held3 (fun w'=>w'.cell? ⟨rb,1,none⟩=some (.string kb)∧w'.cell? ⟨rb,2,none⟩=some (.int .u64 (r.n:Nat))) (refine ⟨?_,?_⟩ <;> first | assumption | (exact (hb3.cell hrl2).trans (by assumption))) ((go_at_call 195;refine (HOC.out _).mono ?_;rintro e w3 ⟨rfl,hb3⟩))
    rename_i hH
    clear hH
    have hbd3:Below w2.heap.size w2 w3:=(show Below w2.heap.size w2 w2.drew from ⟨rfl,rfl,rfl,Nat.le_refl _,fun _ _=>rfl⟩).trans hb3
    have HB3:=hide (HB2.out.below hbd3 hrl2)
    have HS3:=hide (SrcRep.after HS2.out hbd3)
    have C3:=hide (C2.out.trans (Chg.of_below hbd3))
    clear hb3 hbd3 HB2 HS2 C2 HOC d1 d2
    rcases hoc with ⟨rfl,h1,_,_⟩ | ⟨h0,rfl⟩
    ·have hot:ot.length≤1000:=by omega
     have HOT:=hide hot
     generalize hbt:(⟨ot.toArray⟩:ByteArray)=bt at *
     obtain ⟨n1,hn1⟩:∃ n1:Nat,n1=r.n+1:=⟨_,rfl⟩
     have hnn:=HN.out
     have t1:((r.n:Int)+1)%18446744073709551616=(n1:Int):=by omega
     have t2:(r.n:Int)+1=(n1:Int):=by omega
     have t3:(n1:Int)%18446744073709551616=(n1:Int):=by omega
     have f3:=HB3.out.frozen
     have e2:((w3.setCell ⟨rb,4,none⟩ (.string bt)).setCell ⟨rb,3,none⟩ (.string (GT.extract 32 33))).cell? ⟨rb,2,none⟩=some (.int .u64 (r.n:Nat)):=((HB3.out.setCell_same 4 (.string bt)).setCell_same 3 (.string (GT.extract 32 33))).cell (i:=2) rfl
     have HB4:=hide (((HB3.out.setCell_same 4 (.string bt)).setCell_same 3 (.string (GT.extract 32 33))).setCell_same 2 (.int .u64 (n1:Nat)))
     have hG4:=((((World.grownBy.refl w3 (some rb)).setCell 4 (.string bt)).setCell 3 (.string (GT.extract 32 33))).setCell 2 (.int .u64 (n1:Nat)))
     have HS4:=hide (SrcRep.keep HS3.out hG4 hrb hrg)
     have C4:=hide (C3.out.grew hG4 (.inl (.inl rfl)))
     have HN1:=hide hn1
     have c3:=HB3.out.cell (i:=3) rfl
     have c4:=HB3.out.cell (i:=4) rfl
     have c2:=HB3.out.cell (i:=2) rfl
     clear hG4 HB3 HS3 C3 hn1 h1 hot hnn
     go_wp2
     first | refine bodyPost_ret (res_none Tryz.results153 _ _ _) rfl ?_ | refine bodyPost_end (res_none Tryz.results153 _ _ _) rfl ?_
     refine ⟨⟨_,rfl⟩,y,c,HA.out,?_,HS4.out,C4.out⟩
     rw[HOPN.out,if_neg HQ.out.1,if_neg HQ.out.2,if_neg (by decide)]
     refine ⟨?_,fun _=>⟨HKL.out,?_⟩,HOT.out⟩
     ·have h:=HB4.out
      show Blk _ _ _ (rdCells (.pointer (some ⟨b,0,none⟩)) ⟨r.key.toArray⟩ (r.n+1) ⟨(GT.data.toList.drop 32).toArray⟩ ⟨ot.toArray⟩ 0)
      rw[←HN1.out,hkb,hbt,show (⟨(GT.data.toList.drop 32).toArray⟩:ByteArray)=GT.extract 32 33 from ba_ext (by rw[sub_list,two_toList,List.take_of_length_le (by rw[List.length_drop,ba_len];omega)])]
      exact h
     ·show (GT.data.toList.drop 32).length≤1
      rw[List.length_drop,ba_len]
      omega
    ·have z1:(oe != 0)=true:=by rw[bne_iff_ne];exact h0
     have HF:=hide (finishR_any rb _ ⟨#[]⟩ oe w3 HB3.out rfl)
     have HOE:=hide h0
     clear h0
     go_wp2_with fail
     refine HF.out.mono ?_
     rintro e w4 ⟨⟨v4,rfl⟩,hB4,hG4⟩
     have HB4:=hide hB4
     have C4:=hide (C3.out.grew hG4 (.inl (.inl rfl)))
     have HS4:=hide (SrcRep.keep HS3.out hG4 hrb hrg)
     clear HF hB4 hG4 HB3 C3 HS3
     go_wp2
     first | refine bodyPost_ret (res_none Tryz.results153 _ _ _) rfl ?_ | refine bodyPost_end (res_none Tryz.results153 _ _ _) rfl ?_
     refine ⟨⟨_,rfl⟩,y,c,HA.out,?_,HS4.out,C4.out⟩
     rw[HOPN.out,if_neg HQ.out.1,if_neg HQ.out.2,if_pos HOE.out]
     refine ⟨?_,fun h=>absurd h HOE.out,by show 0≤1000;decide⟩
     show Blk _ _ _ (rdCells (if oe=0 then _ else _) _ _ _ _ _)
     rw[if_neg HOE.out]
     exact HB4.out
def ReadP (rb b g:Nat) (r:Ref.Rd) (n:Nat) (w:World) (e:Ending) (w':World):Prop:=∃ r1,Ref.Rd.Fill r r1∧e = .returned (.tuple #[.string ⟨(r1.ans n).1.toArray⟩,.int .i64 (r1.ans n).2])∧RdRep rb b (r1.tell n) w'∧SrcRep b g r1.x w'∧Chg (fun x=>x=rb∨x=b) w w'
theorem RdRep.after {rb b:Nat} {r:Ref.Rd} {w w':World} (h:RdRep rb b r w) (hb:Below w.heap.size w w'):RdRep rb b r w':=⟨h.hb.below hb h.hb.lt,h.ok,h.tx⟩
theorem RdRep.set {rb b:Nat} {r:Ref.Rd} {w:World} (h:RdRep rb b r w) (n:Nat):RdRep rb b (r.tell n) (w.setCell ⟨rb,4,none⟩ (.string ⟨(r.text.drop n).toArray⟩)):=
 ⟨h.hb.setCell_same 4 _,h.ok,by show (r.text.drop n).length≤1000;rw[List.length_drop];have:=h.tx;omega⟩
theorem Rd.tell_nil {r:Ref.Rd} (h:r.text=[]) (n:Nat):r.tell n=r:=by
 obtain ⟨x,key,m,ah,tx,e⟩:=r
 simp only at h
 subst h
 unfold Ref.Rd.tell
 simp
theorem read_end {rb b g:Nat} {r r1:Ref.Rd} {n:Nat} {w w1:World} (hf:Ref.Rd.Fill r r1) (hR:RdRep rb b r1 w1) (hS:SrcRep b g r1.x w1) (hC:Chg (fun x=>x=rb∨x=b) w w1) (hrb:rb≠b) (hrg:rb≠g) (ht:r1.text≠[]) {tk td:ByteArray} (htk:tk.data.toList=r1.text.take n) (htd:td.data.toList=r1.text.drop n):
  ReadP rb b g r n w (.returned (.tuple #[.string tk,.int .i64 0])) (w1.setCell ⟨rb,4,none⟩ (.string td)):=by
 have e1:tk=⟨(r1.text.take n).toArray⟩:=ba_ext htk
 have e2:td=⟨(r1.text.drop n).toArray⟩:=ba_ext htd
 subst e1
 subst e2
 have hG:=((World.grownBy.refl w1 (some rb)).setCell 4 (.string ⟨(r1.text.drop n).toArray⟩))
 have ha:r1.ans n=(r1.text.take n,0):=if_neg ht
 exact ⟨r1,hf,by rw[ha],hR.set n,SrcRep.keep hS hG hrb hrg,hC.grew hG (.inl (.inl rfl))⟩
set_option maxRecDepth 100000 in
set_option maxHeartbeats 6400000 in
theorem read_any (rb b g:Nat) (r:Ref.Rd) (n:Nat) (w:World) (hR:RdRep rb b r w) (hS:SrcRep b g r.x w) (hrb:rb≠b) (hrg:rb≠g) (hn:r.n<1125899906842624) (h0:0<n) (hn2:n≤9223372036854775807):
  Calls Tryz.prog 84 #[.pointer (some ⟨rb,0,none⟩),.int .i64 (n:Nat)] w (ReadP rb b g r n w):=by
 have j0:¬ (n:Int)<0:=by omega
 have z0:((n:Int)==0)=false:=beq_eq_false_iff_ne.2 (by omega)
 by_cases hA:r.text=[]∧r.e=0
 ·obtain ⟨ht,he⟩:=hA
  have HON:=hide (openNext_any rb b g r w hR hS hrb hrg he ht hn)
  have c4:=hR.hb.cell (i:=4) rfl
  have c5:=hR.hb.cell (i:=5) rfl
  rw[ht] at c4
  rw[he] at c5
  have HT:=hide ht
  have HE:=hide he
  clear hR hS ht he hn
  go_enter Tryz.func84,Tryz.ntmps84
  go_wp2_with fail
  refine HON.out.mono ?_
  rintro e w1 ⟨⟨v1,rfl⟩,y,c,hAsk,hR1,hS1,hC1⟩
  have hx:(r.opn y c).x=y:=Ref.Rd.opn_x r y c
  have HFI:=hide (Ref.Rd.Fill.opn r y c HT.out HE.out hAsk)
  have hS1':SrcRep b g (r.opn y c).x w1:=by rw[hx];exact hS1
  clear c4 c5 HON hx hS1 HT HE hAsk
  generalize r.opn y c=r1 at *
  have R1:=hide hR1
  have S1:=hide hS1'
  have C1:=hide hC1
  have c4:=hR1.hb.cell (i:=4) rfl
  have c5:=hR1.hb.cell (i:=5) rfl
  have f1:=hR1.hb.frozen
  clear hR1 hS1' hC1
  by_cases ht1:r1.text=[]
  ·have HAN:=hide (show r1.ans n=([],r1.e) from if_pos ht1)
   rw[ht1] at c4
   have HT1:=hide ht1
   clear ht1
   go_wp2
   go_region
   go_wp2
   refine bodyPost_ret (results_tmp2 rfl _ _ _) rfl ?_
   refine ⟨r1,HFI.out,by rw[HAN.out];rfl,?_,SrcRep.after S1.out (below_drewN (Below.refl _ _) 1),C1.out.trans (Chg.of_below (below_drewN (Below.refl _ _) 1))⟩
   rw[Rd.tell_nil HT1.out]
   exact RdRep.after R1.out (below_drewN (Below.refl _ _) 1)
  ·have zt:=ba_cons ht1
   have hsz:(⟨r1.text.toArray⟩:ByteArray).size=r1.text.length:=two_size _
   have hlst:(⟨r1.text.toArray⟩:ByteArray).data.toList=r1.text:=rfl
   have HEND:=hide (fun tk td=>read_end (n:=n) (tk:=tk) (td:=td) HFI.out R1.out S1.out C1.out hrb hrg ht1)
   have htx:=R1.out.tx
   have HLS:=hide hlst
   generalize (⟨r1.text.toArray⟩:ByteArray)=tb at *
   obtain ⟨N,hN⟩:∃ N:Nat,r1.text.length=N:=⟨_,rfl⟩
   have HNN:=hide hN
   rw[hN] at hsz htx
   clear hN hlst ht1
   by_cases hnl:N<n
   ·have jl:(N:Int)<(n:Int):=by omega
    have HNL:=hide hnl
    clear hnl
    go_wp2
    refine bodyPost_ret (results_tmp2 rfl _ _ _) rfl ?_
    exact HEND.out _ _ (by rw[ext_take,HLS.out,List.take_of_length_le (by rw[HNN.out];exact Nat.le_refl _),List.take_of_length_le (by rw[HNN.out];exact Nat.le_of_lt HNL.out)]) (by rw[List.drop_eq_nil_of_le (by rw[HNN.out];exact Nat.le_of_lt HNL.out)];rfl)
   ·have jl:¬ (N:Int)<(n:Int):=by omega
    have j2:(n:Int)≤(N:Int):=by omega
    have HNL:=hide hnl
    clear hnl
    go_wp2
    refine bodyPost_ret (results_tmp2 rfl _ _ _) rfl ?_
    exact HEND.out _ _ (by rw[ext_take,HLS.out]) (by rw[sub_list,HLS.out,List.take_of_length_le (by rw[List.length_drop,HNN.out];exact Nat.le_refl _)])
 ·have HFI:=hide (Ref.Rd.Fill.stay r hA)
  have R1:=hide hR
  have S1:=hide hS
  have C1:=hide (Chg.refl (fun x=>x=rb∨x=b) w)
  have c4:=hR.hb.cell (i:=4) rfl
  have c5:=hR.hb.cell (i:=5) rfl
  have f1:=hR.hb.frozen
  clear hR hS hn
  by_cases ht1:r.text=[]
  ·have ze:(r.e==0)=false:=beq_eq_false_iff_ne.2 (fun h=>hA ⟨ht1,h⟩)
   have HAN:=hide (show r.ans n=([],r.e) from if_pos ht1)
   rw[ht1] at c4
   have HT1:=hide ht1
   clear ht1
   go_enter Tryz.func84,Tryz.ntmps84
   go_wp2
   go_region
   go_wp2
   refine bodyPost_ret (results_tmp2 rfl _ _ _) rfl ?_
   refine ⟨r,HFI.out,by rw[HAN.out];rfl,?_,SrcRep.after S1.out (below_drewN (Below.refl _ _) 1),C1.out.trans (Chg.of_below (below_drewN (Below.refl _ _) 1))⟩
   rw[Rd.tell_nil HT1.out]
   exact RdRep.after R1.out (below_drewN (Below.refl _ _) 1)
  ·have zt:=ba_cons ht1
   have hsz:(⟨r.text.toArray⟩:ByteArray).size=r.text.length:=two_size _
   have hlst:(⟨r.text.toArray⟩:ByteArray).data.toList=r.text:=rfl
   have HEND:=hide (fun tk td=>read_end (n:=n) (tk:=tk) (td:=td) HFI.out R1.out S1.out C1.out hrb hrg ht1)
   have htx:=R1.out.tx
   have HLS:=hide hlst
   generalize (⟨r.text.toArray⟩:ByteArray)=tb at *
   obtain ⟨N,hN⟩:∃ N:Nat,r.text.length=N:=⟨_,rfl⟩
   have HNN:=hide hN
   rw[hN] at hsz htx
   clear hN hlst ht1
   by_cases hnl:N<n
   ·have jl:(N:Int)<(n:Int):=by omega
    have HNL:=hide hnl
    clear hnl
    go_enter Tryz.func84,Tryz.ntmps84
    go_wp2
    refine bodyPost_ret (results_tmp2 rfl _ _ _) rfl ?_
    exact HEND.out _ _ (by rw[ext_take,HLS.out,List.take_of_length_le (by rw[HNN.out];exact Nat.le_refl _),List.take_of_length_le (by rw[HNN.out];exact Nat.le_of_lt HNL.out)]) (by rw[List.drop_eq_nil_of_le (by rw[HNN.out];exact Nat.le_of_lt HNL.out)];rfl)
   ·have jl:¬ (N:Int)<(n:Int):=by omega
    have j2:(n:Int)≤(N:Int):=by omega
    have HNL:=hide hnl
    clear hnl
    go_enter Tryz.func84,Tryz.ntmps84
    go_wp2
    refine bodyPost_ret (results_tmp2 rfl _ _ _) rfl ?_
    exact HEND.out _ _ (by rw[ext_take,HLS.out]) (by rw[sub_list,HLS.out,List.take_of_length_le (by rw[List.length_drop,HNN.out];exact Nat.le_refl _)])
namespace Ref
def New (m:List UInt8) (x:Src) (i0:Src) (i1:Int) (i2:List UInt8):Prop:=∀ P:Src→Int→List UInt8→Prop,(m.length≠32→P x 1 [])→(∀ (y:Src) (j:Nat),m.length=32→Src.Top x.rest x 0 y j 2→P y 17 [])→(∀ (y:Src) (j c:Nat),m.length=32→Src.Top x.rest x 0 y j c→c≠2→(opnA m (topS x j)).2≠0→P y (opnA m (topS x j)).2 [])→(∀ (y:Src) (j c:Nat) (z:Src) (d:Nat),m.length=32→Src.Top x.rest x 0 y j c→c≠2→(opnA m (topS x j)).2=0→Src.Ask y 16 z d→d≠0→P z (if d=2 then 17 else 10) [])→(∀ (y:Src) (j c:Nat) (z:Src),m.length=32→Src.Top x.rest x 0 y j c→c≠2→(opnA m (topS x j)).2=0→Src.Ask y 16 z 0→P z 0 (keyL (opnA m (topS x j)).1 (topS y 16).data.toList inBody))→P i0 i1 i2
theorem New.len {m:List UInt8} {x:Src} (h0:m.length≠32):New m x x 1 []:=fun _ c0 _ _ _ _=>c0 h0
theorem New.src {m:List UInt8} {x:Src} (y:Src) (j:Nat) (h0:m.length=32) (h1:Src.Top x.rest x 0 y j 2):New m x y 17 []:=fun _ _ c1 _ _ _=>c1 y j h0 h1
theorem New.top {m:List UInt8} {x:Src} (y:Src) (j c:Nat) (h0:m.length=32) (h1:Src.Top x.rest x 0 y j c) (h2:c≠2) (h3:(opnA m (topS x j)).2≠0):New m x y (opnA m (topS x j)).2 []:=fun _ _ _ c2 _ _=>c2 y j c h0 h1 h2 h3
theorem New.cut {m:List UInt8} {x:Src} (y:Src) (j c:Nat) (z:Src) (d:Nat) (h0:m.length=32) (h1:Src.Top x.rest x 0 y j c) (h2:c≠2) (h3:(opnA m (topS x j)).2=0) (h4:Src.Ask y 16 z d) (h5:d≠0):New m x z (if d=2 then 17 else 10) []:=fun _ _ _ _ c3 _=>c3 y j c z d h0 h1 h2 h3 h4 h5
theorem New.ok {m:List UInt8} {x:Src} (y:Src) (j c:Nat) (z:Src) (h0:m.length=32) (h1:Src.Top x.rest x 0 y j c) (h2:c≠2) (h3:(opnA m (topS x j)).2=0) (h4:Src.Ask y 16 z 0):New m x z 0 (keyL (opnA m (topS x j)).1 (topS y 16).data.toList inBody):=fun _ _ _ _ _ c4=>c4 y j c z h0 h1 h2 h3 h4
theorem New.elim {m:List UInt8} {x:Src} {motive:∀ i0 i1 i2,New m x i0 i1 i2→Prop} (len:∀ h0,motive _ _ _ (New.len h0)) (src:∀ y j h0 h1,motive _ _ _ (New.src y j h0 h1)) (top:∀ y j c h0 h1 h2 h3,motive _ _ _ (New.top y j c h0 h1 h2 h3)) (cut:∀ y j c z d h0 h1 h2 h3 h4 h5,motive _ _ _ (New.cut y j c z d h0 h1 h2 h3 h4 h5)) (ok:∀ y j c z h0 h1 h2 h3 h4,motive _ _ _ (New.ok y j c z h0 h1 h2 h3 h4)) {i0 i1 i2} (h:New m x i0 i1 i2):motive _ _ _ h:=by
 obtain ⟨_,q⟩:=h (fun i0 i1 i2=>∃ h,motive i0 i1 i2 h) (fun h0=>⟨_,len h0⟩) (fun y j h0 h1=>⟨_,src y j h0 h1⟩) (fun y j c h0 h1 h2 h3=>⟨_,top y j c h0 h1 h2 h3⟩) (fun y j c z d h0 h1 h2 h3 h4 h5=>⟨_,cut y j c z d h0 h1 h2 h3 h4 h5⟩) (fun y j c z h0 h1 h2 h3 h4=>⟨_,ok y j c z h0 h1 h2 h3 h4⟩)
 exact q
theorem New.det {m:List UInt8} {x y z:Src} {e f:Int} {k l:List UInt8} (h:New m x y e k) (h2:New m x z f l):y=z∧e=f∧k=l:=by
 cases h using Ref.New.elim with
 | len hl=>
  cases h2 using Ref.New.elim with
  | len=>exact ⟨rfl,rfl,rfl⟩
  | src _ _ h=>exact absurd h hl
  | top _ _ _ h=>exact absurd h hl
  | cut _ _ _ _ _ h=>exact absurd h hl
  | ok _ _ _ _ h=>exact absurd h hl
 | src y j hl ht=>
  cases h2 using Ref.New.elim with
  | len h=>exact absurd hl h
  | src _ _ _ ht2=>obtain ⟨rfl,_,_⟩:=ht.det ht2;exact ⟨rfl,rfl,rfl⟩
  | top _ _ _ _ ht2 hc=>exact absurd (ht.det ht2).2.2.symm hc
  | cut _ _ _ _ _ _ ht2 hc=>exact absurd (ht.det ht2).2.2.symm hc
  | ok _ _ _ _ _ ht2 hc=>exact absurd (ht.det ht2).2.2.symm hc
 | top y j c hl ht hc ho=>
  cases h2 using Ref.New.elim with
  | len h=>exact absurd hl h
  | src _ _ _ ht2=>exact absurd (ht.det ht2).2.2 hc
  | top _ _ _ _ ht2=>obtain ⟨rfl,rfl,_⟩:=ht.det ht2;exact ⟨rfl,rfl,rfl⟩
  | cut _ _ _ _ _ _ ht2 _ ho2=>obtain ⟨rfl,rfl,_⟩:=ht.det ht2;exact absurd ho2 ho
  | ok _ _ _ _ _ ht2 _ ho2=>obtain ⟨rfl,rfl,_⟩:=ht.det ht2;exact absurd ho2 ho
 | cut y j c z d hl ht hc ho ha hd=>
  cases h2 using Ref.New.elim with
  | len h=>exact absurd hl h
  | src _ _ _ ht2=>exact absurd (ht.det ht2).2.2 hc
  | top _ _ _ _ ht2 _ ho2=>obtain ⟨rfl,rfl,_⟩:=ht.det ht2;exact absurd ho ho2
  | cut _ _ _ _ _ _ ht2 _ _ ha2=>
   obtain ⟨rfl,rfl,_⟩:=ht.det ht2
   obtain ⟨rfl,rfl⟩:=ha.det ha2
   exact ⟨rfl,rfl,rfl⟩
  | ok _ _ _ _ _ ht2 _ _ ha2=>obtain ⟨rfl,rfl,_⟩:=ht.det ht2;exact absurd (ha.det ha2).2 hd
 | ok y j c z hl ht hc ho ha=>
  cases h2 using Ref.New.elim with
  | len h=>exact absurd hl h
  | src _ _ _ ht2=>exact absurd (ht.det ht2).2.2 hc
  | top _ _ _ _ ht2 _ ho2=>obtain ⟨rfl,rfl,_⟩:=ht.det ht2;exact absurd ho ho2
  | cut _ _ _ _ _ _ ht2 _ _ ha2 hd=>obtain ⟨rfl,rfl,_⟩:=ht.det ht2;exact absurd (ha.det ha2).2.symm hd
  | ok _ _ _ _ _ ht2 _ _ ha2=>
   obtain ⟨rfl,rfl,_⟩:=ht.det ht2
   obtain ⟨rfl,_⟩:=ha.det ha2
   exact ⟨rfl,rfl,rfl⟩
theorem opnA_len (m:List UInt8) (t:ByteArray):(opnA m t).1.length≤32:=by
 unfold opnA
 split
 ·exact Nat.zero_le _
 ·rename_i h
  split
  ·exact Nat.zero_le _
  ·split
   ·exact Nat.zero_le _
   ·rcases parAns_facts t with ⟨h1,_⟩ | ⟨_,h2,_⟩
    ·exact absurd h1 h
    ·exact unwA_len m h2
end Ref
def NewRP (m:ByteArray) (b g:Nat) (x:Src) (w:World) (e:Ending) (w':World):Prop:=∃ y k key pv,Ref.New m.data.toList x y k key∧e = .returned (.tuple #[pv,.int .i64 k])∧(k≠0→pv = .pointer none)∧(k=0→∃ rb,w.heap.size≤rb∧pv = .pointer (some ⟨rb,0,none⟩)∧RdRep rb b ⟨y,key,0,[],[],0⟩ w')∧SrcRep b g y w'∧w.grownBy w' (some b)
set_option maxRecDepth 100000 in
set_option maxHeartbeats 6400000 in
theorem newReader_any (m:ByteArray) (b g:Nat) (x:Src) (w:World) (ht:Tabs w) (hS:SrcRep b g x w) (hb2:2≤b):
  Calls Tryz.prog 76 #[.string m,.pointer (some ⟨b,0,none⟩)] w (NewRP m b g x w):=by
 by_cases hl:m.size=32
 ·have jl:((m.size:Int)==32)=true:=by rw[beq_iff_eq];omega
  have jl2:((m.size:Int) != 32)=false:=by simp only[bne,jl];rfl
  have HRH:=hide (readHeader_any b g x w hS)
  have HT:=hide ht
  have HXA:=hide hS.at_
  have HML:=hide (show m.data.toList.length=32 by rw[ba_len,hl])
  clear ht hS
  go_enter Tryz.func76,Tryz.ntmps76
  go_wp2_with fail
  refine HRH.out.mono ?_
  rintro e w1 ⟨y,j,c,hTop,rfl,hS1,hG1⟩
  have L:=hTop.left HXA.out
  have HTOP:=hide hTop
  have HS1:=hide hS1
  have HG1:=hide hG1
  have HT1:=hide (HT.out.grown hG1 hb2)
  have hj:=L.le (by decide)
  clear HRH hTop hS1 hG1 HT
  by_cases hc:c=2
  ·subst hc
   rw[if_pos rfl,if_pos rfl]
   clear L
   go_wp2
   refine bodyPost_ret (results_tmp2 rfl _ _ _) rfl ?_
   exact ⟨y,17,[],_,Ref.New.src y j HML.out HTOP.out,rfl,fun _=>rfl,fun h=>absurd h (by decide),HS1.out,HG1.out⟩
  ·rw[if_neg hc,if_neg hc]
   have htz:(topS x j).size≤1000:=by unfold topS;rw[ByteArray.size_extract];omega
   have HOH:=hide (openHeader_any m (topS x j) w1 HT1.out (by omega) htz)
   have hol:=Ref.opnA_len m.data.toList (topS x j)
   have HC:=hide hc
   have hya:=L.size
   have HN1:=hide (fun (h:(Ref.opnA m.data.toList (topS x j)).2≠0)=>Ref.New.top y j c HML.out HTOP.out HC.out h)
   have HN2:=hide (fun (h:(Ref.opnA m.data.toList (topS x j)).2=0) z d=>Ref.New.cut y j c z d HML.out HTOP.out HC.out h)
   have HN3:=hide (fun (h:(Ref.opnA m.data.toList (topS x j)).2=0) z=>Ref.New.ok y j c z HML.out HTOP.out HC.out h)
   generalize Ref.opnA m.data.toList (topS x j)=op at *
   generalize topS x j=tt at *
   obtain ⟨ot,oe⟩:=op
   simp only at HOH hol HN1 HN2 HN3
   clear hc htz L hj
   go_wp2_with fail
   refine HOH.out.mono ?_
   rintro e w2 ⟨rfl,hb2'⟩
   have HS2:=hide (SrcRep.after HS1.out hb2')
   have HG2:=hide (grown_below HG1.out hb2')
   have HT2:=hide (HT1.out.after hb2')
   clear HOH hb2' HS1 HG1 HT1
   by_cases ho:oe=0
   ·subst ho
    have HGA:=hide (gather_any b g y ⟨#[]⟩ 16 w2 HS2.out (by decide) (by decide))
    go_wp2_with fail
    refine HGA.out.mono ?_
    rintro e w3 ⟨z,d,hA,rfl,hS3,hG3⟩
    have L:=hA.left HS2.out.at_
    have HA:=hide hA
    have HS3:=hide hS3
    have HG3:=hide (grown_trans HG2.out hG3 (fun k hk=>.inr (by injection hk with hk;exact hk.symm)))
    have HT3:=hide (HT2.out.grown hG3 hb2)
    have hge:=L.ge
    have hsz:=L.size
    rw[L.s] at hsz
    have hgs:=gotS_size (got:=⟨#[]⟩) hge hsz
    have hz0:(⟨#[]⟩:ByteArray).size=0:=rfl
    have hcode:=L.code
    clear HGA hA hS3 hG3 HT2 HG2
    by_cases hd2:d=2
    ·subst hd2
     rw[if_pos rfl,if_pos rfl]
     clear L hgs
     go_wp2
     refine bodyPost_ret (results_tmp2 rfl _ _ _) rfl ?_
     exact ⟨z,17,[],_,HN2.out (by simp) z 2 HA.out (by decide),rfl,fun _=>rfl,fun h=>absurd h (by decide),HS3.out,HG3.out⟩
    ·rw[if_neg hd2,if_neg hd2]
     by_cases hd0:d=0
     ·subst hd0
      have hall:=L.all rfl
      have eg:gotS ⟨#[]⟩ y z=topS y 16:=ba_ext (by unfold gotS topS;rw[ba_list,hall];rfl)
      rw[eg] at hgs ⊢
      have j16:¬ ((topS y 16).size:Int)<16:=by omega
      have HKY:=hide (kKey_any ⟨ot.toArray⟩ (topS y 16) ⟨#[112,97,121,108,111,97,100]⟩ w3 (by rw[two_size];omega) (by omega) (by decide) HT3.out.k HT3.out.h HT3.out.two)
      rw[show (expO (macL (topS y 16).data.toList (⟨ot.toArray⟩:ByteArray).data.toList) (⟨#[112,97,121,108,111,97,100]⟩:ByteArray).data.toList 1).take 32=Ref.keyL ot (topS y 16).data.toList Ref.inBody from rfl] at HKY
      have HKL:=hide (Ref.keyL_len ot (topS y 16).data.toList Ref.inBody)
      have HNK:=hide (HN3.out (by simp) z HA.out)
      generalize Ref.keyL ot (topS y 16).data.toList Ref.inBody=ky at *
      generalize topS y 16=ty at *
      clear L eg hall hd2
      go_wp2_with fail
      refine HKY.out.mono ?_
      rintro e w4 ⟨rfl,hb4⟩
      have HS4:=hide (SrcRep.after HS3.out hb4)
      have HG4:=hide (grown_below HG3.out hb4)
      have hsz4:=HG4.out.size
      clear HKY hb4 HS3 HG3 HT3
      generalize hkb:(⟨ky.toArray⟩:ByteArray)=kb at *
      go_wp2
      refine bodyPost_ret (results_tmp2 rfl _ _ _) rfl ?_
      have hbA:Below w4.heap.size w4 (w4.alloc (.cells (rdCells (.pointer (some ⟨b,0,none⟩)) kb 0 ⟨#[]⟩ ⟨#[]⟩ 0).toArray 183)):=(Below.refl _ _).alloc (Nat.le_refl _) _
      refine ⟨z,0,ky,_,HNK.out,rfl,fun h=>absurd rfl h,fun _=>⟨w4.heap.size,hsz4,rfl,?_,fun _=>⟨HKL.out,Nat.zero_le _⟩,Nat.zero_le _⟩,SrcRep.after HS4.out hbA,grown_below HG4.out hbA⟩
      show Blk _ _ _ (rdCells _ ⟨ky.toArray⟩ 0 ⟨#[]⟩ ⟨#[]⟩ 0)
      rw[hkb]
      exact Blk.new rfl rfl
     ·obtain rfl:d=1:=by omega
      have ho:=L.over rfl
      have j16:((gotS ⟨#[]⟩ y z).size:Int)<16:=by omega
      generalize gotS ⟨#[]⟩ y z=gt at *
      clear L ho
      go_wp2
      refine bodyPost_ret (results_tmp2 rfl _ _ _) rfl ?_
      exact ⟨z,10,[],_,HN2.out (by simp) z 1 HA.out (by decide),rfl,fun _=>rfl,fun h=>absurd h (by decide),HS3.out,HG3.out⟩
   ·have z1:(oe != 0)=true:=by rw[bne_iff_ne];exact ho
    have HO:=hide ho
    generalize (⟨ot.toArray⟩:ByteArray)=ob at *
    clear ho hol
    go_wp2
    refine bodyPost_ret (results_tmp2 rfl _ _ _) rfl ?_
    exact ⟨y,oe,[],_,HN1.out HO.out,rfl,fun _=>rfl,fun h=>absurd h HO.out,HS2.out,HG2.out⟩
 ·have jl2:((m.size:Int) != 32)=true:=by rw[bne_iff_ne];omega
  have HL:=hide (show m.data.toList.length≠32 by rw[ba_len];exact hl)
  have HS:=hide hS
  clear hl hS ht
  go_enter Tryz.func76,Tryz.ntmps76
  go_wp2
  refine bodyPost_ret (results_tmp2 rfl _ _ _) rfl ?_
  exact ⟨x,1,[],_,Ref.New.len HL.out,rfl,fun _=>rfl,fun h=>absurd h (by decide),HS.out,World.grownBy.refl _ _⟩
namespace Ref
def Rd.rem (r:Rd):List UInt8:=r.ahead++r.x.rest
theorem rest_len (x:Src):x.rest.length=x.s.size-x.at_:=by unfold Src.rest;rw[List.length_drop,ba_len]
theorem rest_cut {x y:Src} (hs:y.s=x.s) (h1:x.at_≤y.at_):(x.s.extract x.at_ y.at_).data.toList=x.rest.take (y.at_-x.at_)∧y.rest=x.rest.drop (y.at_-x.at_):=by
 refine ⟨by rw[sub_list];rfl,?_⟩
 unfold Src.rest
 rw[hs,List.drop_drop]
 congr 1
 omega
structure Rd.Next (r r1:Rd):Prop where
 s:r1.x.s=r.x.s
 plan:r1.x.plan=r.x.plan
 at_:r1.x.at_≤r1.x.s.size
 none:r.rem=[]→r1.text=[]∧r1.e=10
 last:r.rem≠[]→r.rem.length≤32→r1.x.rest=[]∧(((opnC r.key r.n true r.rem).2≠0∧r1.text=[]∧r1.e=(opnC r.key r.n true r.rem).2)∨((opnC r.key r.n true r.rem).2=0∧r1.text=(opnC r.key r.n true r.rem).1∧r1.e=13))
 more:32<r.rem.length→((opnC r.key r.n false (r.rem.take 32)).2≠0∧r1.text=[]∧r1.e=(opnC r.key r.n false (r.rem.take 32)).2)∨((opnC r.key r.n false (r.rem.take 32)).2=0∧r1.text=(opnC r.key r.n false (r.rem.take 32)).1∧r1.e=0∧r1.key=r.key∧r1.n=r.n+1∧r1.rem=r.rem.drop 32∧r1.ahead.length=1)
theorem Rd.next {r r1:Rd} (h:Rd.Fill r r1) (ht:r.text=[]) (he:r.e=0) (ha:r.ahead.length≤1) (hx:r.x.at_≤r.x.s.size) (hc:Src.Calm r.x.plan):Rd.Next r r1:=by
 cases h using Ref.Rd.Fill.elim with
 | stay hn=>exact absurd ⟨ht,he⟩ hn
 | opn y c _ _ hA=>
  have L:=hA.left hx
  obtain ⟨k1,k2⟩:=hA.calm_all hc hx
  have hge:=L.ge
  have hsz:=L.size
  rw[L.s] at hsz
  obtain ⟨ec,er⟩:=rest_cut L.s hge
  have hrl:=rest_len r.x
  have hc2:c≠2:=hA.calm hc
  have hml:r.rem.length=r.ahead.length+(r.x.s.size-r.x.at_):=by unfold Rd.rem;rw[List.length_append,hrl]
  have hgl:r.ahead.length+(y.at_-r.x.at_)=min 33 r.rem.length:=by
   rw[hml]
   rcases Nat.lt_or_ge r.x.s.size (r.x.at_+(33-r.ahead.length)) with h | h
   ·have:=(k2 h).2;omega
   ·have:=(k1 h).2;omega
  have hgt:r.ahead++(r.x.s.extract r.x.at_ y.at_).data.toList=r.rem.take 33:=by
   rw[ec]
   unfold Rd.rem
   rw[List.take_append]
   rw[List.take_of_length_le (show r.ahead.length≤33 by omega)]
   congr 1
   rcases Nat.lt_or_ge r.x.s.size (r.x.at_+(33-r.ahead.length)) with h | h
   ·have:=(k2 h).2
    rw[List.take_of_length_le (by omega),List.take_of_length_le (by omega)]
   ·have:=(k1 h).2
    congr 1
    omega
  have hx1:(r.opn y c).x=y:=Rd.opn_x r y c
  have hop:r.opn y c=if min 33 r.rem.length=0 then ⟨y,[],0,[],[],10⟩ else if min 33 r.rem.length≤32 then
   (if (opnC r.key r.n true (r.rem.take 33)).2≠0 then ⟨y,[],0,[],[],(opnC r.key r.n true (r.rem.take 33)).2⟩ else ⟨y,[],0,[],(opnC r.key r.n true (r.rem.take 33)).1,13⟩)
   else if (opnC r.key r.n false ((r.rem.take 33).take 32)).2≠0 then ⟨y,[],0,[],[],(opnC r.key r.n false ((r.rem.take 33).take 32)).2⟩
   else ⟨y,r.key,r.n+1,(r.rem.take 33).drop 32,(opnC r.key r.n false ((r.rem.take 33).take 32)).1,0⟩:=by
   rw[←hgl,←hgt]
   show Rd.opn r y c=_
   unfold Rd.opn
   rw[if_neg hc2]
  refine ⟨by rw[hx1];exact L.s,by rw[hx1];exact L.plan,by rw[hx1];exact L.size,fun h=>?_,fun h0 h1=>?_,fun h1=>?_⟩
  ·rw[hop,if_pos (by rw[h];rfl)]
   exact ⟨rfl,rfl⟩
  ·have hp:=List.length_pos_iff.2 h0
   have et:r.rem.take 33=r.rem:=List.take_of_length_le (by omega)
   rw[et,if_neg (by omega),if_pos (by omega)] at hop
   refine ⟨?_,?_⟩
   ·rw[hx1,er]
    apply List.drop_eq_nil_of_le
    omega
   ·rw[hop]
    by_cases h2:(opnC r.key r.n true r.rem).2≠0
    ·rw[if_pos h2];exact .inl ⟨h2,rfl,rfl⟩
    ·rw[if_neg h2];exact .inr ⟨by simpa using h2,rfl,rfl⟩
  ·have et:(r.rem.take 33).take 32=r.rem.take 32:=by rw[List.take_take];rfl
   rw[et,if_neg (by omega),if_neg (by omega)] at hop
   rw[hop]
   by_cases h2:(opnC r.key r.n false (r.rem.take 32)).2≠0
   ·rw[if_pos h2];exact .inl ⟨h2,rfl,rfl⟩
   ·rw[if_neg h2]
    refine .inr ⟨by simpa using h2,rfl,rfl,rfl,rfl,?_,?_⟩
    ·show (r.rem.take 33).drop 32++y.rest=r.rem.drop 32
     have e1:r.rem=r.rem.take 33++y.rest:=by
      rw[←hgt,ec,er]
      unfold Rd.rem
      rw[List.append_assoc,List.take_append_drop]
     conv=>rhs;rw[e1]
     rw[List.drop_append_of_le_length (by rw[List.length_take];omega)]
    ·show ((r.rem.take 33).drop 32).length=1
     rw[List.length_drop,List.length_take]
     omega
def Rd.Run (i0:Rd) (i1:List UInt8) (i2:Int):Prop:=∀ P:Rd→List UInt8→Int→Prop,(∀ (r r1:Rd),Rd.Fill r r1→r1.text=[]→P r [] r1.e)→(∀ (r r1:Rd) (t:List UInt8) (e:Int),Rd.Fill r r1→r1.text≠[]→P (r1.tell 16) t e→P r (r1.text.take 16++t) e)→P i0 i1 i2
theorem Rd.Run.stop (r r1:Rd) (h0:Rd.Fill r r1) (h1:r1.text=[]):Rd.Run r [] r1.e:=fun _ c0 _=>c0 r r1 h0 h1
theorem Rd.Run.more (r r1:Rd) (t:List UInt8) (e:Int) (h0:Rd.Fill r r1) (h1:r1.text≠[]) (h2:Rd.Run (r1.tell 16) t e):Rd.Run r (r1.text.take 16++t) e:=fun P c0 c1=>c1 r r1 t e h0 h1 (h2 P c0 c1)
theorem Rd.Run.ind {motive:∀ i0 i1 i2,Rd.Run i0 i1 i2→Prop} (stop:∀ r r1 h0 h1,motive _ _ _ (Rd.Run.stop r r1 h0 h1)) (more:∀ r r1 t e h0 h1 h2,motive _ _ _ h2→motive _ _ _ (Rd.Run.more r r1 t e h0 h1 h2)) {i0 i1 i2} (h:Rd.Run i0 i1 i2):motive _ _ _ h:=by
 obtain ⟨_,q⟩:=h (fun i0 i1 i2=>∃ h,motive i0 i1 i2 h) (fun r r1 h0 h1=>⟨_,stop r r1 h0 h1⟩) (fun r r1 t e h0 h1 h2=>h2.elim fun h2 q2=>⟨_,more r r1 t e h0 h1 h2 q2⟩)
 exact q
theorem Rd.Run.elim {motive:∀ i0 i1 i2,Rd.Run i0 i1 i2→Prop} (stop:∀ r r1 h0 h1,motive _ _ _ (Rd.Run.stop r r1 h0 h1)) (more:∀ r r1 t e h0 h1 h2,motive _ _ _ (Rd.Run.more r r1 t e h0 h1 h2)) {i0 i1 i2} (h:Rd.Run i0 i1 i2):motive _ _ _ h:=Rd.Run.ind stop (fun r r1 t e h0 h1 h2 _=>more r r1 t e h0 h1 h2) h
theorem Rd.Fill.meas {r r1:Rd} (h:Rd.Fill r r1) (ha:r.e=0→r.ahead.length≤1) (hx:r.x.at_≤r.x.s.size):r1.x.s=r.x.s∧r1.x.plan=r.x.plan∧r.x.at_≤r1.x.at_∧r1.x.at_≤r1.x.s.size∧r1.n≤r.n+1∧r1.n+(r1.x.s.size-r1.x.at_)≤r.n+(r.x.s.size-r.x.at_)∧(r1.x.s.size-r1.x.at_)+r1.text.length≤(r.x.s.size-r.x.at_)+r.text.length∧(r1.text=[]→r1.e≠0):=by
 cases h using Ref.Rd.Fill.elim with
 | stay hn=>exact ⟨rfl,rfl,Nat.le_refl _,hx,Nat.le_succ _,Nat.le_refl _,Nat.le_refl _,fun h e=>hn ⟨h,e⟩⟩
 | opn y c ht he hA=>
  have L:=hA.left hx
  have hge:=L.ge
  have hsz:=L.size
  have hs:=L.s
  have hal:=ha he
  rw[hs] at hsz
  rw[Rd.opn_x,L.s]
  have hgl:(r.ahead++(r.x.s.extract r.x.at_ y.at_).data.toList).length=r.ahead.length+(y.at_-r.x.at_):=by rw[List.length_append,ba_len,ByteArray.size_extract];omega
  refine ⟨rfl,L.plan,hge,hsz,?_,?_,?_,?_⟩
  ·unfold Rd.opn
   split
   ·exact Nat.zero_le _
   ·split
    ·exact Nat.zero_le _
    ·split
     ·split <;> exact Nat.zero_le _
     ·split
      ·exact Nat.zero_le _
      ·exact Nat.le_refl _
  ·unfold Rd.opn
   split
   ·show 0+_≤_;omega
   ·split
    ·show 0+_≤_;omega
    ·split
     ·split
      ·show 0+_≤_;omega
      ·show 0+_≤_;omega
     ·rename_i hq
      split
      ·show 0+_≤_;omega
      ·show (r.n+1)+_≤_;omega
  ·rw[ht]
   unfold Rd.opn
   split
   ·show _+0≤_+0;omega
   ·split
    ·show _+0≤_+0;omega
    ·split
     ·rcases opnC_cases r.key r.n true (r.ahead++(r.x.s.extract r.x.at_ y.at_).data.toList) with ⟨h0,h1,_⟩ | ⟨h0,h1⟩
      ·rw[if_neg (by rw[h0];simp)]
       show _+(opnC _ _ _ _).1.length≤_+0
       omega
      ·rw[if_pos h0]
       show _+0≤_+0
       omega
     ·rename_i hq
      rcases opnC_cases r.key r.n false ((r.ahead++(r.x.s.extract r.x.at_ y.at_).data.toList).take 32) with ⟨h0,h1,_⟩ | ⟨h0,h1⟩
      ·rw[if_neg (by rw[h0];simp)]
       show _+(opnC _ _ _ _).1.length≤_+0
       rw[List.length_take] at h1
       omega
      ·rw[if_pos h0]
       show _+0≤_+0
       omega
  ·unfold Rd.opn
   split
   ·exact fun _ h=>absurd (show (17:Int)=0 from h) (by decide)
   ·split
    ·exact fun _ h=>absurd (show (10:Int)=0 from h) (by decide)
    ·split
     ·split
      ·rename_i h;exact fun _=>h
      ·exact fun _ h=>absurd (show (13:Int)=0 from h) (by decide)
     ·split
      ·rename_i h;exact fun _=>h
      ·rename_i hq h
       intro h2
       exfalso
       rcases opnC_cases r.key r.n false ((r.ahead++(r.x.s.extract r.x.at_ y.at_).data.toList).take 32) with ⟨h0,h1,_⟩ | ⟨h0,h1⟩
       ·have h3:(opnC r.key r.n false ((r.ahead++(r.x.s.extract r.x.at_ y.at_).data.toList).take 32)).1=[]:=h2
        rw[h3,List.length_take] at h1
        simp only[List.length_nil] at h1
        omega
       ·exact h h0
end Ref
def src0 (s:ByteArray):Src:=⟨s,[],0,0⟩
theorem src0_calm (s:ByteArray):Src.Calm (src0 s).plan:=fun i=>by show 0≤([]:List Int).getD i 0;simp
set_option maxHeartbeats 400000 in
theorem sourceOf_nil (text:ByteArray) (w:World) (hz:text.size≤1099511627776):
  Calls Tryz.prog 71 #[.string text,.slice none 0 0] w fun e w'=>∃ b,e = .returned (.pointer (some ⟨b,0,none⟩))∧w.heap.size<b∧SrcRep b w.heap.size (src0 text) w'∧Below w.heap.size w w':=by
 have hmk:∀ w,(Instr.makeSlice 24 (.int .i64 0) (.int .i64 0)).run Tryz.prog w = .ok (.slice (some ⟨w.heap.size,0,none⟩) 0 0) (w.alloc (.cells (intV (List.replicate 0 0)).toArray 3)):=fun w=>make_ints 0 (by decide) w
 have HZ:=hide hz
 clear hz
 go_enter Tryz.func71,Tryz.ntmps71
 go_wp2_with (refine wpList_copy_splice rfl (.tmp 9) (.tmp 10) 24 24 rfl 3 Tryz.underlying24 infoInt1 _ _ _ _ _ _ rfl rfl w.heap.size 0 (intV (List.replicate 0 0)) 3 ?_ (intV []) ?_ ?_ ?_ (intV_one _) w.heap.size w ?_ (Nat.le_refl _) ?_;exact Blk.new rfl rfl;rfl;(intro h;exact absurd h (by decide));(simp[intV]);exact (Below.refl _ _).alloc (Nat.le_refl _) _;intro w2 HB2 hbe2)
 go_ret
 have hB2:Blk w2 w.heap.size 3 (intV []):=HB2.out
 exact ⟨_,rfl,hB2.lt,⟨Blk.new rfl rfl,hB2.alloc _,HZ.out,Nat.zero_le _,by show 0≤_;decide,Nat.le_refl _⟩,hbe2.alloc (Nat.le_of_lt hB2.lt) _⟩
def DecP (m:List UInt8) (file:ByteArray) (i0:List UInt8 × Int):Prop:=∀ P:List UInt8 × Int→Prop,(∀ (y:Src) (k:Int) (key:List UInt8),Ref.New m (src0 file) y k key→k≠0→P ([],k))→(∀ (y:Src) (key t:List UInt8) (e:Int),Ref.New m (src0 file) y 0 key→Ref.Rd.Run ⟨y,key,0,[],[],0⟩ t e→P (if e=13 then (t,0) else ([],e)))→P i0
theorem DecP.bad {m:List UInt8} {file:ByteArray} (y:Src) (k:Int) (key:List UInt8) (h0:Ref.New m (src0 file) y k key) (h1:k≠0):DecP m file ([],k):=fun _ c0 _=>c0 y k key h0 h1
theorem DecP.run {m:List UInt8} {file:ByteArray} (y:Src) (key t:List UInt8) (e:Int) (h0:Ref.New m (src0 file) y 0 key) (h1:Ref.Rd.Run ⟨y,key,0,[],[],0⟩ t e):DecP m file (if e=13 then (t,0) else ([],e)):=fun _ _ c1=>c1 y key t e h0 h1
theorem DecP.elim {m:List UInt8} {file:ByteArray} {motive:∀ i0,DecP m file i0→Prop} (bad:∀ y k key h0 h1,motive _ (DecP.bad y k key h0 h1)) (run:∀ y key t e h0 h1,motive _ (DecP.run y key t e h0 h1)) {i0} (h:DecP m file i0):motive _ h:=by
 obtain ⟨_,q⟩:=h (fun i0=>∃ h,motive i0 h) (fun y k key h0 h1=>⟨_,bad y k key h0 h1⟩) (fun y key t e h0 h1=>⟨_,run y key t e h0 h1⟩)
 exact q
theorem New.src {m:List UInt8} {x y:Src} {k:Int} {key:List UInt8} (h:Ref.New m x y k key) (hx:x.at_≤x.s.size):y.s=x.s∧y.plan=x.plan∧x.at_≤y.at_∧y.at_≤y.s.size∧(k=0→key.length=32):=by
 cases h using Ref.New.elim with
 | len=>exact ⟨rfl,rfl,Nat.le_refl _,hx,fun h=>absurd h (by decide)⟩
 | src _ j _ ht=>
  have L:=ht.left hx
  exact ⟨L.s,L.plan,by have:=L.at_;omega,L.size,fun h=>absurd h (by decide)⟩
 | top _ j c _ ht _ ho=>
  have L:=ht.left hx
  exact ⟨L.s,L.plan,by have:=L.at_;omega,L.size,fun h=>absurd h ho⟩
 | cut y j c _ d _ ht _ _ ha hd=>
  have L:=ht.left hx
  have L2:=ha.left L.size
  exact ⟨L2.s.trans L.s,L2.plan.trans L.plan,by have:=L.at_;have:=L2.ge;omega,L2.size,fun h=>by split at h <;> exact absurd h (by decide)⟩
 | ok y j c _ _ ht _ _ ha=>
  have L:=ht.left hx
  have L2:=ha.left L.size
  exact ⟨L2.s.trans L.s,L2.plan.trans L.plan,by have:=L.at_;have:=L2.ge;omega,L2.size,fun _=>Ref.keyL_len _ _ _⟩
def DecR (w:World) (B0 rb b g:Nat) (r0:Ref.Rd) (F:Nat) (ve vo vt:Value) (wr:World):Prop:=∃ (r:Ref.Rd) (e:Int) (l tx:List UInt8) (go cap:Nat),
 ve = .int .i64 e∧vt = .string ⟨tx.toArray⟩∧vo = .slice (some ⟨go,0,none⟩) l.length cap∧Row wr B0 5 1 vo l.length (u8L l)∧RdRep rb b r wr∧SrcRep b g r.x wr∧Below w.heap.size w wr∧r.x.s.size=F∧(r.x.s.size-r.x.at_)+r.text.length+tx.length+l.length≤F∧r.n+(r.x.s.size-r.x.at_)≤F∧tx.length≤16∧(e≠0→tx=[]∧∀ E,E=e→Ref.Rd.Run r0 l E)∧(e=0→∀ t E,Ref.Rd.Run r t E→Ref.Rd.Run r0 (l++tx++t) E)
def atOf (b:Nat) (w:World):Nat:=match w.cell? ⟨b,1,none⟩ with
 | some (.int _ k)=>k.toNat
 | _=>0
theorem SrcRep.atOf {b g:Nat} {x:Src} {w:World} (h:SrcRep b g x w):atOf b w=x.at_:=by
 unfold Go.Proofs.YtmjekklgefdolaaGreatDoor.atOf
 rw[h.hb.cell (i:=1) (show (x.cells g)[1]? = some (.int .i64 ((x.at_:Nat):Int)) from rfl)]
 simp
def txOf (rb:Nat) (w:World):Nat:=match w.cell? ⟨rb,4,none⟩ with
 | some (.string s)=>s.size
 | _=>0
theorem RdRep.txOf {rb b:Nat} {r:Ref.Rd} {w:World} (h:RdRep rb b r w):txOf rb w=r.text.length:=by
 unfold Go.Proofs.YtmjekklgefdolaaGreatDoor.txOf
 rw[h.hb.cell (i:=4) rfl]
 exact two_size _
def zeroV (v:Value):Nat:=match v with
 | .int _ 0=>1
 | _=>0
theorem zeroV_ne {e:Int} (h:e≠0):zeroV (.int .i64 e)=0:=by
 unfold zeroV
 split
 ·rename_i h2
  injection h2 with _ h3
  exact absurd h3 h
 ·rfl
theorem Chg.belowN {w w1 w2:World} {S:Nat→Prop} {B:Nat} (hC:Chg S w1 w2) (hb:Below B w w1) (hB:B≤w.heap.size) (h:∀ k,S k→B≤k):Below B w w2:=
 hb.trans ⟨hC.os,hC.tape,hC.output,hC.size,fun k hk=>hC.block k (Nat.lt_of_lt_of_le hk (Nat.le_trans hB hb.size)) (fun hs=>absurd (h k hs) (by omega))⟩
theorem Row.chg {S:Nat→Prop} {w w':World} {base:Nat} {e:TypeId} {size:Nat} {v:Value} {n:Nat} {xs:List Value} (h:Row w base e size v n xs) (hC:Chg S w w') (hs:∀ g,v.ownBlock=some g→¬ S g):Row w' base e size v n xs:=by
 refine ⟨h.1,?_⟩
 rcases h.2 with h0 | ⟨g,cap,cur,hv,hb,hg,hc,hm,hcl,htk⟩
 ·exact .inl h0
 ·refine .inr ⟨g,cap,cur,hv,hb,?_,hc,hm,hcl,htk⟩
  obtain ⟨a,m,h1,h2⟩:=hg
  exact ⟨a,m,(hC.block g (BlkM.lt ⟨a,m,h1,h2⟩) (hs g (by rw[hv];rfl))).trans h1,h2⟩
theorem RdRep.keep {rb b g:Nat} {r:Ref.Rd} {w w':World} (h:RdRep rb b r w) (hg:w.grownBy w' (some g)) (hne:g≠rb):RdRep rb b r w':=⟨h.hb.grown hg (fun e=>hne (by injection e with e;exact e.symm)),h.ok,h.tx⟩
set_option maxRecDepth 100000 in
set_option maxHeartbeats 6400000 in
theorem decrypt_any (m file:ByteArray) (w:World) (ht:Tabs w) (hz:file.size≤1099511627776):
  Calls Tryz.prog 90 #[.string m,.string file] w fun e w'=>∃ a,DecP m.data.toList file a∧e = .returned (ansV a)∧Below w.heap.size w w':=by
 have h2:=ht.two
 have HT:=hide ht
 have HSO:=hide (sourceOf_nil file w hz)
 have hz':=hz
 have HNR:=hide (fun b (w1:World) t s hb=>newReader_any m b w.heap.size (src0 file) w1 t s hb)
 clear ht hz
 go_enter Tryz.func90,Tryz.ntmps90
 go_wp2_with fail
 refine HSO.out.mono ?_
 rintro e w1 ⟨b,rfl,hb,hS1,hb1⟩
 have hbl1:b<w1.heap.size:=hS1.hb.lt
 have HN1:=hide (HNR.out b w1 (HT.out.after hb1) hS1 (by omega))
 have B1:=hide hb1
 clear HSO HNR hS1 hb1 HT
 go_wp2_with fail
 refine HN1.out.mono ?_
 rintro e w2 ⟨y,k,key,pv,hN,rfl,hk1,hk2,hS2,hG2⟩
 have hnf:=New.src hN (Nat.zero_le _)
 have HNW:=hide hN
 have hbl:b<w2.heap.size:=hS2.hb.lt
 have hg1:w1.heap.size≤w2.heap.size:=hG2.size
 have B2:=hide (B1.out.trans (RowKit.Below.of_grown hG2 (Nat.le_of_lt hb) B1.out.size))
 have HS2:=hide hS2
 clear HN1 hN hS2 hG2
 by_cases hk:k=0
 ·subst hk
  obtain ⟨rb,hrb,rfl,hR⟩:=hk2 rfl
  have HR:=hide hR
  have hrl:=hR.hb.lt
  have hbs1:=B1.out.size
  have hbs2:=B2.out.size
  have hyF:y.s.size=file.size:=by rw[hnf.1];rfl
  have hne:rb≠b∧rb≠w.heap.size:=by omega
  have HR0:=hide (show RdRep rb b ⟨y,key,0,[],[],0⟩ w2 from hR)
  have hya:=hnf.2.2.2.1
  have HYA:=hide hya
  have hgl:=HS2.out.hg.lt
  have hbA:Below w2.heap.size w2 (w2.alloc (.cells #[] 5)):=(Below.refl _ _).alloc (Nat.le_refl _) _
  have HD0:=hide (show DecR w w2.heap.size rb b w.heap.size ⟨y,key,0,[],[],0⟩ file.size (.int .i64 0) (.slice (some ⟨w2.heap.size,0,none⟩) 0 0) (.string ⟨#[]⟩) (w2.alloc (.cells #[] 5)) from
   ⟨⟨y,key,0,[],[],0⟩,0,[],[],w2.heap.size,0,rfl,rfl,rfl,Row.empty _ _ (heap_alloc_new _ _) _ (Nat.le_refl _),HR0.out.after hbA,HS2.out.after hbA,B2.out.trans (hbA.mono hbs2),hyF,by show (y.s.size-y.at_)+0+0+0≤_;omega,by show 0+(y.s.size-y.at_)≤_;omega,Nat.zero_le _,fun h=>absurd rfl h,fun _ t E h=>h⟩)
  have HDP:=hide (fun t e h=>DecP.run (m:=m.data.toList) (file:=file) y key t e HNW.out h)
  clear hR HR hk1 hk2 HNW hbA HR0 hyF hnf hya
  generalize (⟨y,key,0,[],[],0⟩:Ref.Rd)=r0 at *
  go_wp2
  go_loopw [8,9,10] (fun ve vo vt wr=>DecR w w2.heap.size rb b w.heap.size r0 file.size ve vo vt wr) (fun ve _ _ wr=>(file.size-atOf b wr)+txOf rb wr+zeroV ve)
  case atStart=>exact HD0.out
  case round=>
   clear HD0
   obtain ⟨r,e,l,tx,go,cap,rfl,rfl,rfl,hrow,hRr,hSr,hbe,hF,hm1,hm2,htx,hend,hmore⟩:=hrel
   have HROW:=hide hrow
   have HRR:=hide hRr
   have HSR:=hide hSr
   have HBE:=hide hbe
   have hat:=hSr.at_
   have hsz:=hbe.size
   obtain ⟨ao9,cap9,e9,hd1,hd2⟩:=Row.anyN hrow
   injection e9 with e9a e9b e9c
   subst e9c
   clear e9a e9b ao9
   unfold maxLen at hd2
   have htz:(⟨tx.toArray⟩:ByteArray).size=tx.length:=two_size _
   have htl:(⟨tx.toArray⟩:ByteArray).data.toList=tx:=rfl
   have HTL:=hide htl
   have HM:=hide (And.intro hF (And.intro hm1 hm2))
   have HAT:=hide hat
   have hgo:w2.heap.size≤go∧go<wr.heap.size:=hrow.lt go rfl
   have hw2:w2.heap.size≤wr.heap.size:=by omega
   by_cases he:e=0
   ·subst he
    have HMORE:=hide (hmore rfl)
    have hN2:l.length+(⟨tx.toArray⟩:ByteArray).size≤140737488355328:=by omega
    have HTZ:=hide htz
    have hrn:r.n<1125899906842624:=by omega
    have hMS:=And.intro hSr.atOf hRr.txOf
    have HMS:=hide hMS
    generalize (⟨tx.toArray⟩:ByteArray)=tb at *
    clear hend hmore hm1 hm2 htl hrow hRr hSr hbe htz hMS hF
    go_wp2_with (at_builtin;refine wpList_append_text rfl (.tmp 25) (.tmp 26) rfl w2.heap.size go cap l.length _ rfl HROW.out tb rfl hN2 hw2 ?_;intro g5 cap5 w5 hr5 hg5)
    have HR5:=hide (RdRep.keep HRR.out hg5 (by omega))
    have HS5:=hide (SrcRep.keep HSR.out hg5 (by omega) (by omega))
    have B5:=hide (HBE.out.trans (RowKit.Below.of_grown hg5 (by omega) HBE.out.size))
    have HROW5:=hide hr5
    have hg5l:w2.heap.size≤g5∧g5<w5.heap.size:=hr5.lt g5 rfl
    have HRD:Hid (Calls Tryz.prog 84 #[.pointer (some ⟨rb,0,none⟩),.int .i64 16] w5 (ReadP rb b w.heap.size r 16 w5)):=hide (read_any rb b w.heap.size r 16 w5 HR5.out HS5.out hne.1 hne.2 hrn (by decide) (by decide))
    clear hr5 hg5 HROW HRR HBE
    go_wp2_with fail
    refine HRD.out.mono ?_
    rintro e w6 ⟨r1,hfi,rfl,hR6,hS6,hC6⟩
    have hms:=hfi.meas (fun h=>(HR5.out.ok h).2) HAT.out
    have HR6:=hide hR6
    have HS6:=hide (show SrcRep b w.heap.size (r1.tell 16).x w6 from hS6)
    have HROW6:=hide (Row.chg HROW5.out hC6 (fun q hq hs=>by
     have e1:g5=q:=by injection hq
     rcases hs with h | h
     ·omega
     ·omega))
    have B6:=hide (Chg.belowN hC6 B5.out (Nat.le_refl _) (fun q hq=>by omega))
    have hF:=HM.out.1
    have hm1:=HM.out.2.1
    have hm2:=HM.out.2.2
    have hq1:=HMS.out.1
    have hq2:=HMS.out.2
    obtain ⟨m1,m2,m3,m4,m5,m6,m7,m8⟩:=hms
    rw[hF] at m6 m7
    rw[m1,hF] at m4 m6 m7
    have HTX:Hid ((r1.text=[]∧r1.ans 16=([],r1.e)∧r1.e≠0)∨(r1.text≠[]∧r1.ans 16=(r1.text.take 16,0))):=hide (by
     by_cases h:r1.text=[]
     ·exact .inl ⟨h,if_pos h,m8 h⟩
     ·exact .inr ⟨h,if_neg h⟩)
    have HFI:=hide hfi
    have HMM:=hide (And.intro m1 (And.intro m4 (And.intro m6 m7)))
    have HLN:=hide (show (l++tx).length=l.length+tb.size by rw[List.length_append,HTZ.out])
    have hrow6:=HROW6.out
    rw[HTL.out,←HLN.out] at hrow6
    have HRW:=hide hrow6
    clear hrow6 HROW6 HROW5 hR6 hS6 hC6 hfi HRD HR5 HS5 B5 m1 m2 m3 m4 m5 m6 m7 m8 hq1 hq2 hF hm1 hm2
    go_wp2
    go_roundw
    case rel=>
     have hF:=HM.out.1
     have hm1:=HM.out.2.1
     have hm2:=HM.out.2.2
     obtain ⟨m1,m4,m6,m7⟩:=HMM.out
     rw[←HLN.out]
     have hl2:(l++tx).length=l.length+tx.length:=List.length_append
     rcases HTX.out with ⟨h1,h2,h3⟩ | ⟨h1,h2⟩
     ·rw[h1] at m7
      refine ⟨r1.tell 16,r1.e,l++tx,[],g5,cap5,by rw[h2],by rw[h2],rfl,HRW.out,HR6.out,HS6.out,B6.out,?_,?_,?_,Nat.zero_le _,fun _=>⟨rfl,fun E hE=>?_⟩,fun h=>absurd h h3⟩
      ·show r1.x.s.size=_;rw[m1];exact hF
      ·show (r1.x.s.size-r1.x.at_)+(r1.text.drop 16).length+0+_≤_
       rw[m1,hF,h1,hl2]
       show _+0+0+_≤_
       have:([]:List UInt8).length=0:=rfl
       omega
      ·show r1.n+(r1.x.s.size-r1.x.at_)≤_;rw[m1,hF];omega
      ·have h:=HMORE.out [] r1.e (Ref.Rd.Run.stop r r1 HFI.out h1)
       rw[List.append_nil] at h
       rw[hE]
       exact h
     ·have hp:=List.length_pos_iff.2 h1
      have htl:(r1.text.take 16).length+(r1.text.drop 16).length=r1.text.length:=by rw[List.length_take,List.length_drop];omega
      refine ⟨r1.tell 16,0,l++tx,r1.text.take 16,g5,cap5,by rw[h2],by rw[h2],rfl,HRW.out,HR6.out,HS6.out,B6.out,?_,?_,?_,?_,fun h=>absurd rfl h,fun _ t E hE=>?_⟩
      ·show r1.x.s.size=_;rw[m1];exact hF
      ·show (r1.x.s.size-r1.x.at_)+(r1.text.drop 16).length+(r1.text.take 16).length+_≤_
       rw[m1,hF,hl2]
       omega
      ·show r1.n+(r1.x.s.size-r1.x.at_)≤_;rw[m1,hF];omega
      ·rw[List.length_take];omega
      ·have h:=HMORE.out _ E (Ref.Rd.Run.more r r1 t E HFI.out h1 hE)
       rw[List.append_assoc (l++tx)]
       exact h
    case measure=>
     have hq1:=HMS.out.1
     have hq2:=HMS.out.2
     have hF:=HM.out.1
     obtain ⟨m1,m4,m6,m7⟩:=HMM.out
     have k1:=HS6.out.atOf
     have k2:=HR6.out.txOf
     have k3:(r1.tell 16).x.at_=r1.x.at_:=rfl
     have k4:(r1.tell 16).text.length=r1.text.length-16:=by show (r1.text.drop 16).length=_;rw[List.length_drop]
     rw[k3] at k1
     rw[k4] at k2
     have kz:zeroV (.int .i64 0)=1:=rfl
     show (file.size-atOf b w6)+txOf rb w6+zeroV (.int .i64 (r1.ans 16).2)<(file.size-atOf b wr)+txOf rb wr+zeroV (.int .i64 0)
     rw[k1,k2,hq1,hq2,kz]
     rcases HTX.out with ⟨h1,h2,h3⟩ | ⟨h1,h2⟩
     ·rw[h2]
      have e0:zeroV (.int .i64 (([],r1.e):List UInt8 × Int).2)=0:=zeroV_ne h3
      rw[e0,h1]
      rw[h1] at m7
      have:([]:List UInt8).length=0:=rfl
      omega
     ·have hp:=List.length_pos_iff.2 h1
      rw[h2]
      show _+_+1<_
      omega
   ·obtain ⟨rfl,hrun⟩:=hend he
    have HRUN:=hide (HDP.out l e (hrun e rfl))
    obtain ⟨ao3,cap3,e3,hd3,hd4,hcv⟩:=Row.strAny hrow
    injection e3 with e3a e3b e3c
    subst e3a
    subst e3c
    clear e3b
    have z0:(e==0)=false:=beq_eq_false_iff_ne.2 he
    clear hend hmore hm1 hm2 htl hrow hRr hSr hbe htz hrun
    by_cases h13:e=13
    ·subst h13
     go_wp2
     refine bodyPost_ret (results_tmp2 rfl _ _ _) rfl ?_
     exact ⟨l,0,(by have h:=HRUN.out;simpa using h),rfl,HBE.out⟩
    ·have z1:(e != 13)=true:=by rw[bne_iff_ne];exact h13
     have HH:=hide h13
     clear h13 hcv
     go_wp2
     refine bodyPost_ret (results_tmp2 rfl _ _ _) rfl ?_
     exact ⟨[],e,(by have h:=HRUN.out;rw[if_neg HH.out] at h;exact h),rfl,HBE.out⟩
 ·have z1:(k != 0)=true:=by rw[bne_iff_ne];exact hk
  obtain rfl:=hk1 hk
  have HDB:=hide (DecP.bad (m:=m.data.toList) (file:=file) y k key HNW.out hk)
  clear hk hk1 hk2 HNW hnf
  go_wp2
  refine bodyPost_ret (results_tmp2 rfl _ _ _) rfl ?_
  exact ⟨([],k),HDB.out,rfl,B2.out⟩
theorem getD_take (T:List UInt8) {j i:Nat} (h:i<j):(T.take j).getD i 0=T.getD i 0:=by
 rw[List.getD_eq_getElem?_getD,List.getElem?_take,if_pos h,←List.getD_eq_getElem?_getD]
theorem Hd.line_take (T:List UInt8) (j:Nat):∀ i,i≤j→Hd.lineAt (T.take j) i=Hd.lineAt T i
 | 0,_=>rfl
 | i+1,h=>by
  show (if (T.take j).getD i 0=10 then i+1 else Hd.lineAt (T.take j) i)=(if T.getD i 0=10 then i+1 else Hd.lineAt T i)
  rw[Hd.line_take T j i (by omega),getD_take T (by omega)]
theorem Hd.whole_take (T:List UInt8) (m:Nat):Hd.wholeAt (T.take (m+1)) m↔Hd.wholeAt T m:=by
 unfold Hd.wholeAt
 rw[Hd.line_take T (m+1) m (by omega),getD_take T (by omega)]
 have hle:=Hd.lineAt_le T m
 constructor
 ·rintro ⟨h1,h2,h3⟩
  rw[List.drop_take,List.take_take,Nat.min_eq_left (by omega)] at h3
  exact ⟨h1,h2,h3⟩
 ·rintro ⟨h1,h2,h3⟩
  refine ⟨h1,h2,?_⟩
  rw[List.drop_take,List.take_take,Nat.min_eq_left (by omega)]
  exact h3
end Go.Proofs.YtmjekklgefdolaaGreatDoor
