import Derived.Test.YtmjekklgefdolaaGreatDoorRe15
namespace Go.Proofs.YtmjekklgefdolaaGreatDoor
open Go.RowKit
theorem Src.Top.ends {T:List UInt8} {x y:Src} {k j c:Nat} (h:Src.Top T x k y j c):k≤j∧((k<j∧Hd.wholeAt T (j-1)∧∀ i,k≤i→i+1<j→¬ Hd.wholeAt T i)∨((∀ i,k≤i→i<j→¬ Hd.wholeAt T i)∧(284≤j∨c≠0))):=by
 induction h using Src.Top.ind with
 | full x k hk=>exact ⟨Nat.le_refl _,.inr ⟨fun i h1 h2=>by omega,.inl hk⟩⟩
 | fail x y k hk ha=>exact ⟨Nat.le_refl _,.inr ⟨fun i h1 h2=>by omega,.inr (by decide)⟩⟩
 | over x y k hk ha=>exact ⟨Nat.le_refl _,.inr ⟨fun i h1 h2=>by omega,.inr (by decide)⟩⟩
 | hit x y k hk ha hw=>exact ⟨Nat.le_succ _,.inl ⟨Nat.lt_succ_self _,by rw[Nat.add_sub_cancel];exact hw,fun i h1 h2=>by omega⟩⟩
 | more x y z k j c hk ha hw ht ih=>
  obtain ⟨i1,i2⟩:=ih
  refine ⟨by omega,?_⟩
  rcases i2 with ⟨a,b,d⟩ | ⟨a,b⟩
  ·refine .inl ⟨by omega,b,fun i h1 h2=>?_⟩
   rcases Nat.eq_or_lt_of_le h1 with e | e
   ·subst e;exact hw
   ·exact d i e h2
  ·refine .inr ⟨fun i h1 h2=>?_,b⟩
   rcases Nat.eq_or_lt_of_le h1 with e | e
   ·subst e;exact hw
   ·exact a i e h2
theorem Src.Top.calm2 {T:List UInt8} {x y:Src} {k j c:Nat} (h:Src.Top T x k y j c) (hc:Src.Calm x.plan) (hx:x.at_≤x.s.size):c≠2:=by
 induction h using Src.Top.ind with
 | full=>decide
 | fail x y k hk ha=>exact absurd rfl (ha.calm hc)
 | over=>decide
 | hit=>decide
 | more x y z k j c hk ha hw ht ih=>exact ih (by rw[(ha.left hx).plan];exact hc) (ha.left hx).size
def SplO (T:List UInt8) (j:Nat):Prop:=(∃ k,k<min T.length 284∧Hd.wholeAt T k∧Hd.noneTo T k∧j=k+1)∨(Hd.noneTo T (min T.length 284)∧j=min T.length 284)
theorem SplO.det {T:List UInt8} {i j:Nat} (h:SplO T i) (h2:SplO T j):i=j:=by
 rcases h with ⟨k,a1,a2,a3,rfl⟩ | ⟨a1,rfl⟩
 ·rcases h2 with ⟨l,b1,b2,b3,rfl⟩ | ⟨b1,rfl⟩
  ·rcases Nat.lt_trichotomy k l with q | q | q
   ·exact absurd a2 (b3 k q)
   ·rw[q]
   ·exact absurd b2 (a3 l q)
  ·exact absurd a2 (b1 k a1)
 ·rcases h2 with ⟨l,b1,b2,b3,rfl⟩ | ⟨b1,rfl⟩
  ·exact absurd b2 (a1 l b1)
  ·rfl
theorem top_split {file:ByteArray} {y:Src} {j c:Nat} (h:Src.Top (src0 file).rest (src0 file) 0 y j c):SplO file.data.toList j∧c≠2∧y.at_=j∧y.s=file∧j≤file.size:=by
 have hr:(src0 file).rest=file.data.toList:=rfl
 have L:=h.left (Nat.zero_le _)
 have hat:y.at_=0+(j-0):=L.at_
 have hys:y.s=file:=L.s
 have hsz:=L.size
 rw[hys] at hsz
 have hj:=L.le (Nat.zero_le _)
 have htl:file.data.toList.length=file.size:=ba_len _
 have hc2:c≠2:=h.calm2 (src0_calm file) (Nat.zero_le _)
 rw[hr] at h
 refine ⟨?_,hc2,by omega,hys,by omega⟩
 obtain ⟨_,hE⟩:=h.ends
 rcases hE with ⟨a,b,d⟩ | ⟨a,b⟩
 ·exact .inl ⟨j-1,by omega,b,fun i hi=>d i (Nat.zero_le _) (by omega),by omega⟩
 ·have e:j=min file.data.toList.length 284:=by
   rcases b with b | b
   ·omega
   ·have hc1:c=1:=by have:=L.code;omega
    have:=(L.over hc1).1
    have h3:y.at_=file.size:=this
    omega
  exact .inr ⟨fun i hi=>a i (Nat.zero_le _) (by omega),e⟩
set_option maxRecDepth 100000 in
set_option maxHeartbeats 1600000 in
theorem refSplit_a (file:ByteArray) (w:World) (hf:file.size≤1099511627776) (h284:284<file.size):
  Calls Tryz.prog 146 #[.string file] w fun e w'=>∃ j,SplO file.data.toList j∧e = .returned (.tuple #[.string (file.extract 0 j),.string (file.extract j file.size)])∧Below w.heap.size w w':=by
 obtain ⟨N,hN⟩:∃ N:Nat,file.size=N:=⟨_,rfl⟩
 obtain ⟨n,hn⟩:∃ n:Nat,min N 284=n:=⟨_,rfl⟩
 have htl:file.data.toList.length=N:=by rw[ba_len,hN]
 have HL:=hide htl
 have HFN:=hide hN
 have hnN:(n:Int)≤(N:Int):=by omega
 have hnb:n≤284:=by omega
 have HWH:=hide (fun i (hi:i<n) w=>refWhole_any (file.extract 0 (i+1)) w (by rw[ByteArray.size_extract];omega))
 have HWI:=hide (fun i (hi:i<n)=>show Hd.whole (file.extract 0 (i+1))↔Hd.wholeAt file.data.toList i by
  unfold Hd.whole
  rw[ByteArray.size_extract,ext_take,show min (i+1) file.size-0-1=i by omega,Hd.whole_take]
  exact ⟨fun h=>h.2,fun h=>⟨by omega,h⟩⟩)
 have HF1:=hide (fun k (hk:k<n) h1 h2=>show SplO file.data.toList (k+1) from .inl ⟨k,by rw[HL.out];omega,h1,h2,rfl⟩)
 have HF2:=hide (fun h=>show SplO file.data.toList n from .inr ⟨by rw[HL.out,hn];exact h,by rw[HL.out,hn]⟩)
 rw[hN] at h284
 clear htl HL
 ·have j0:(284:Int)<(N:Int):=by omega
  obtain rfl:n=284:=by omega
  clear hn h284
  go_enter Tryz.func146,Tryz.ntmps146
  go_wp2
  go_loopw [5] (fun v wr=>∃ i:Nat,i≤284∧v = .int .i64 (i:Nat)∧Hd.noneTo file.data.toList i∧Below w.heap.size w wr) (fun v _=>284-(intOf v).toNat)
  case atStart=>exact ⟨0,Nat.zero_le _,rfl,fun i hi=>absurd hi (Nat.not_lt_zero _),Below.refl _ _⟩
  case round=>
   obtain ⟨i,hi,rfl,hno,hbe⟩:=hrel
   by_cases hlt:i<284
   ·have jl:(i:Int)<284:=by omega
    obtain ⟨i1,hi1⟩:∃ x:Nat,i+1=x:=⟨_,rfl⟩
    have ti:(i:Int)+1=(i1:Int):=by omega
    have ji:(i1:Int)≤(N:Int):=by omega
    have hi1b:i1≤284:=by omega
    have HW:=hide (HWH.out i hlt)
    have hwi:=HWI.out i hlt
    rw[hi1] at HW hwi
    have HNO:=hide hno
    have HBE:=hide hbe
    by_cases hd:Hd.whole (file.extract 0 i1)
    ·rw[decide_eq_true hd] at HW
     have hs:=HF1.out i hlt (hwi.1 hd) hno
     rw[hi1] at hs
     have HS:=hide hs
     clear hwi hd hno hbe hs hlt hi
     go_wp2_with fail
     refine (HW.out _).mono ?_
     rintro e w2 ⟨rfl,hb2⟩
     have HB2:=hide (HBE.out.trans (hb2.mono HBE.out.size))
     clear HW hb2
     go_wp2
     go_quiet (fail)
     go_wp2
     refine bodyPost_ret (results_tmp2 rfl _ _ _) rfl ?_
     exact ⟨i1,HS.out,by rw[HFN.out];rfl,below_drewN HB2.out _⟩
    ·rw[decide_eq_false hd] at HW
     have HNX:=hide (show Hd.noneTo file.data.toList (i+1) from fun k hk=>by
      rcases Nat.eq_or_lt_of_le (Nat.le_of_lt_succ hk) with e | e
      ·subst e;exact fun h=>hd (hwi.2 h)
      ·exact hno k e)
     have HLT:=hide hlt
     clear hwi hd hno hbe hlt hi
     go_wp2_with fail
     refine (HW.out _).mono ?_
     rintro e w2 ⟨rfl,hb2⟩
     have HB2:=hide (HBE.out.trans (hb2.mono HBE.out.size))
     clear HW hb2
     go_wp2
     go_roundw
     case rel=>exact ⟨i+1,HLT.out,by go_num,HNX.out,HB2.out⟩
     case measure=>have:=HLT.out;simp[intOf];omega
   ·obtain rfl:i=284:=by omega
    have HS:=hide (HF2.out hno)
    have HBE:=hide hbe
    clear hno hbe hlt hi
    go_wp2
    go_quiet (fail)
    go_wp2
    refine bodyPost_ret (results_tmp2 rfl _ _ _) rfl ?_
    exact ⟨284,HS.out,by rw[HFN.out];rfl,below_drewN HBE.out _⟩
set_option maxRecDepth 100000 in
set_option maxHeartbeats 1600000 in
theorem refSplit_b (file:ByteArray) (w:World) (hf:file.size≤1099511627776) (h284:¬ 284<file.size):
  Calls Tryz.prog 146 #[.string file] w fun e w'=>∃ j,SplO file.data.toList j∧e = .returned (.tuple #[.string (file.extract 0 j),.string (file.extract j file.size)])∧Below w.heap.size w w':=by
 obtain ⟨N,hN⟩:∃ N:Nat,file.size=N:=⟨_,rfl⟩
 obtain ⟨n,hn⟩:∃ n:Nat,min N 284=n:=⟨_,rfl⟩
 have htl:file.data.toList.length=N:=by rw[ba_len,hN]
 have HL:=hide htl
 have HFN:=hide hN
 have hnN:(n:Int)≤(N:Int):=by omega
 have hnb:n≤284:=by omega
 have HWH:=hide (fun i (hi:i<n) w=>refWhole_any (file.extract 0 (i+1)) w (by rw[ByteArray.size_extract];omega))
 have HWI:=hide (fun i (hi:i<n)=>show Hd.whole (file.extract 0 (i+1))↔Hd.wholeAt file.data.toList i by
  unfold Hd.whole
  rw[ByteArray.size_extract,ext_take,show min (i+1) file.size-0-1=i by omega,Hd.whole_take]
  exact ⟨fun h=>h.2,fun h=>⟨by omega,h⟩⟩)
 have HF1:=hide (fun k (hk:k<n) h1 h2=>show SplO file.data.toList (k+1) from .inl ⟨k,by rw[HL.out];omega,h1,h2,rfl⟩)
 have HF2:=hide (fun h=>show SplO file.data.toList n from .inr ⟨by rw[HL.out,hn];exact h,by rw[HL.out,hn]⟩)
 rw[hN] at h284
 clear htl HL
 ·have j0:¬ (284:Int)<(N:Int):=by omega
  obtain rfl:n=N:=by omega
  clear hn h284
  go_enter Tryz.func146,Tryz.ntmps146
  go_wp2
  go_loopw [5] (fun v wr=>∃ i:Nat,i≤n∧v = .int .i64 (i:Nat)∧Hd.noneTo file.data.toList i∧Below w.heap.size w wr) (fun v _=>n-(intOf v).toNat)
  case atStart=>exact ⟨0,Nat.zero_le _,rfl,fun i hi=>absurd hi (Nat.not_lt_zero _),Below.refl _ _⟩
  case round=>
   obtain ⟨i,hi,rfl,hno,hbe⟩:=hrel
   by_cases hlt:i<n
   ·have jl:(i:Int)<(n:Int):=by omega
    obtain ⟨i1,hi1⟩:∃ x:Nat,i+1=x:=⟨_,rfl⟩
    have ti:(i:Int)+1=(i1:Int):=by omega
    have ji:(i1:Int)≤(n:Int):=by omega
    have hi1b:i1≤284:=by omega
    have HW:=hide (HWH.out i hlt)
    have hwi:=HWI.out i hlt
    rw[hi1] at HW hwi
    have HNO:=hide hno
    have HBE:=hide hbe
    by_cases hd:Hd.whole (file.extract 0 i1)
    ·rw[decide_eq_true hd] at HW
     have hs:=HF1.out i hlt (hwi.1 hd) hno
     rw[hi1] at hs
     have HS:=hide hs
     clear hwi hd hno hbe hs hlt hi
     go_wp2_with fail
     refine (HW.out _).mono ?_
     rintro e w2 ⟨rfl,hb2⟩
     have HB2:=hide (HBE.out.trans (hb2.mono HBE.out.size))
     clear HW hb2
     go_wp2
     go_quiet (fail)
     go_wp2
     refine bodyPost_ret (results_tmp2 rfl _ _ _) rfl ?_
     exact ⟨i1,HS.out,by rw[HFN.out];rfl,below_drewN HB2.out _⟩
    ·rw[decide_eq_false hd] at HW
     have HNX:=hide (show Hd.noneTo file.data.toList (i+1) from fun k hk=>by
      rcases Nat.eq_or_lt_of_le (Nat.le_of_lt_succ hk) with e | e
      ·subst e;exact fun h=>hd (hwi.2 h)
      ·exact hno k e)
     have HLT:=hide hlt
     clear hwi hd hno hbe hlt hi
     go_wp2_with fail
     refine (HW.out _).mono ?_
     rintro e w2 ⟨rfl,hb2⟩
     have HB2:=hide (HBE.out.trans (hb2.mono HBE.out.size))
     clear HW hb2
     go_wp2
     go_roundw
     case rel=>exact ⟨i+1,HLT.out,by go_num,HNX.out,HB2.out⟩
     case measure=>have:=HLT.out;simp[intOf];omega
   ·obtain rfl:i=n:=by omega
    have HS:=hide (HF2.out hno)
    have HBE:=hide hbe
    clear hno hbe hlt hi
    go_wp2
    go_quiet (fail)
    go_wp2
    refine bodyPost_ret (results_tmp2 rfl _ _ _) rfl ?_
    exact ⟨i,HS.out,by rw[HFN.out,show file.extract i i=ByteArray.empty by simp];rfl,below_drewN HBE.out _⟩
theorem refSplit_any (file:ByteArray) (w:World) (hf:file.size≤1099511627776):
  Calls Tryz.prog 146 #[.string file] w fun e w'=>∃ j,SplO file.data.toList j∧e = .returned (.tuple #[.string (file.extract 0 j),.string (file.extract j file.size)])∧Below w.heap.size w w':=by
 by_cases h:284<file.size
 ·exact refSplit_a file w hf h
 ·exact refSplit_b file w hf h
namespace Ref
def ulk (m:List UInt8) (top rest:ByteArray):List UInt8 × ByteArray × Int:=
 if (opnA m top).2≠0 then ([],⟨#[]⟩,(opnA m top).2) else if rest.size<16 then ([],⟨#[]⟩,10) else (keyL (opnA m top).1 (rest.extract 0 16).data.toList inBody,rest.extract 16 rest.size,0)
end Ref
theorem ext_end (f:ByteArray) (a:Nat):(f.extract a f.size).data.toList=f.data.toList.drop a:=by
 rw[sub_list,List.take_of_length_le (by rw[List.length_drop,ba_len];exact Nat.le_refl _)]
theorem ext_ext (f:ByteArray) (a b:Nat):(f.extract a f.size).extract b (f.extract a f.size).size=f.extract (a+b) f.size:=by
 refine ba_ext ?_
 rw[ext_end,ext_end,ext_end,List.drop_drop]
theorem ext_ext0 (f:ByteArray) (a b:Nat) (h:a+b≤f.size):(f.extract a f.size).extract 0 b=f.extract a (a+b):=by
 refine ba_ext ?_
 rw[sub_list,sub_list,sub_list,List.drop_zero,List.take_take,Nat.add_sub_cancel_left,Nat.sub_zero,Nat.min_eq_left (by omega)]
theorem new_ulk {m:List UInt8} {file:ByteArray} {y:Src} {k:Int} {key:List UInt8} (h:Ref.New m (src0 file) y k key) {j:Nat} (hj:SplO file.data.toList j):
  (m.length≠32∧k=1)∨(m.length=32∧k≠0∧(Ref.ulk m (file.extract 0 j) (file.extract j file.size)).2.2=k)∨(m.length=32∧k=0∧y.at_≤file.size∧Ref.ulk m (file.extract 0 j) (file.extract j file.size)=(key,file.extract y.at_ file.size,0)):=by
 cases h using Ref.New.elim with
 | len hl=>exact .inl ⟨hl,rfl⟩
 | src _ j' _ ht=>exact absurd rfl (top_split ht).2.1
 | top _ j' c hl ht _ ho=>
  obtain ⟨a1,_⟩:=top_split ht
  obtain rfl:=a1.det hj
  refine .inr (.inl ⟨hl,ho,?_⟩)
  have e:topS (src0 file) j'=file.extract 0 j':=by show file.extract 0 (0+j')=_;rw[Nat.zero_add]
  rw[e] at ho ⊢
  unfold Ref.ulk
  rw[if_pos ho]
 | cut y' j' c _ d hl ht _ ho ha hd=>
  obtain ⟨a1,_,a3,a4,a5⟩:=top_split ht
  obtain rfl:=a1.det hj
  have e:topS (src0 file) j'=file.extract 0 j':=by show file.extract 0 (0+j')=_;rw[Nat.zero_add]
  rw[e] at ho
  have hpl:y'.plan=[]:=(ht.left (Nat.zero_le _)).plan
  have hcl:Src.Calm y'.plan:=by rw[hpl];exact src0_calm file
  obtain ⟨b1,b2⟩:=ha.calm_all hcl (by rw[a4,a3];exact a5)
  rw[a4,a3] at b1 b2
  have hd2:=ha.calm hcl
  rcases Nat.lt_or_ge file.size (j'+16) with q | q
  ·refine .inr (.inl ⟨hl,by rw[if_neg hd2];decide,?_⟩)
   unfold Ref.ulk
   rw[if_neg (fun q=>q ho),if_pos (by rw[ByteArray.size_extract];omega),if_neg hd2]
  ·exact absurd (b1 q).1 hd
 | ok y' j' c _ hl ht _ ho ha=>
  obtain ⟨a1,_,a3,a4,a5⟩:=top_split ht
  obtain rfl:=a1.det hj
  have e:topS (src0 file) j'=file.extract 0 j':=by show file.extract 0 (0+j')=_;rw[Nat.zero_add]
  rw[e] at ho
  have L:=ha.left (by rw[a4,a3];exact a5)
  have h1:=L.all rfl
  have h2:=L.size
  have h3:y.s=file:=L.s.trans a4
  rw[h3,h1,a3] at h2
  refine .inr (.inr ⟨hl,rfl,by rw[h1,a3];exact h2,?_⟩)
  unfold Ref.ulk
  rw[if_neg (fun q=>q ho),if_neg (by rw[ByteArray.size_extract];omega),ext_ext file j' 16,ext_ext0 file j' 16 h2,h1,a3,e]
  have e2:topS y' 16=file.extract j' (j'+16):=by unfold topS;rw[a4,a3]
  rw[e2]
set_option maxRecDepth 100000 in
set_option maxHeartbeats 1600000 in
theorem refUnlocked_any (master top rest:ByteArray) (w:World) (hm:master.size=32) (ht:top.size≤1000) (hr:rest.size≤1099511627776):
  Calls Tryz.prog 147 #[.string master,.string top,.string rest] w fun e w'=>e = .returned (.tuple #[.string ⟨(Ref.ulk master.data.toList top rest).1.toArray⟩,.string (Ref.ulk master.data.toList top rest).2.1,.int .i64 (Ref.ulk master.data.toList top rest).2.2])∧Below w.heap.size w w':=by
 have HPA:=hide (headParse_any top w (by omega))
 rcases Hd.parAns_cases top with h | ⟨ss,bs,mac,hO,hT,h⟩
 ·have hu:Ref.ulk master.data.toList top rest=([],⟨#[]⟩,6):=by unfold Ref.ulk;rw[opnA_bad h,if_pos (by decide)]
  rw[h] at HPA
  rw[hu]
  clear h hu
  go_enter Tryz.func147,Tryz.ntmps147
  go_wp2_with fail
  refine HPA.out.mono ?_
  rintro e w1 ⟨vs,vb,rfl,hr1,hr2,hb1⟩
  obtain ⟨o1,c1,rfl,_⟩:=Row.anyN hr1
  obtain ⟨o2,c2,rfl,_⟩:=Row.anyN hr2
  have B1:=hide hb1
  have hsz:=hb1.size
  clear HPA hr1 hr2 hb1
  go_wp2
  refine bodyPost_ret (results_tmp3 rfl _ _ _) rfl ?_
  exact ⟨rfl,B1.out.alloc hsz _⟩
 ·rw[h] at HPA
  have hq:=opsA_eq (m:=master.data.toList) h hO hT
  obtain ⟨op,hop⟩:∃ x,Ref.opsA master.data.toList ss bs mac=x:=⟨_,rfl⟩
  have HOP:=hide (fun hb vs vb (w':World) (h0:OpS w' hb vs vb mac ss bs w')=>refOpens_any master hb vs vb mac ss bs w' h0 hO (by omega))
  have HUL:=hide (show Ref.ulk master.data.toList top rest=if op.2≠0 then ([],⟨#[]⟩,op.2) else if rest.size<16 then ([],⟨#[]⟩,10) else (Ref.keyL op.1 (rest.extract 0 16).data.toList Ref.inBody,rest.extract 16 rest.size,0) by unfold Ref.ulk;rw[hq,hop])
  have hol:op.1.length≤32:=by rw[←hop,←hq];exact Ref.opnA_len _ _
  rw[hop] at HOP
  generalize Ref.ulk master.data.toList top rest=UU at *
  change Hid (Calls Tryz.prog 124 #[.string top] w fun e w'=>∃ vs vb,e = .returned (.tuple #[.agg #[vs,vb,.string mac],.int .i64 0]) ∧
   Row w' w.heap.size 9 1 vs ss.length (strV ss)∧Row w' w.heap.size 9 1 vb bs.length (strV bs)∧Below w.heap.size w w') at HPA
  clear h hq hop hO hT
  obtain ⟨ot,oe⟩:=op
  unfold ansV at HOP
  go_enter Tryz.func147,Tryz.ntmps147
  go_wp2_with fail
  refine HPA.out.mono ?_
  rintro e w1 ⟨vs,vb,rfl,hr1,hr2,hb1⟩
  have hbA:Below w1.heap.size w1 (w1.alloc (.cells #[vs,vb,.string mac] 155)):=(Below.refl _ _).alloc (Nat.le_refl _) _
  have hB2:Blk (w1.alloc (.cells #[vs,vb,.string mac] 155)) w1.heap.size 155 [vs,vb,.string mac]:=Blk.new rfl rfl
  have HO2:=hide (HOP.out w1.heap.size vs vb _ ⟨hB2,Below.refl _ _,(Row.strs hr1).after hbA,(Row.strs hr2).after hbA⟩)
  have B2:=hide (hb1.trans (hbA.mono hb1.size))
  obtain ⟨o1,c1,rfl,_⟩:=Row.anyN hr1
  obtain ⟨o2,c2,rfl,_⟩:=Row.anyN hr2
  clear HPA hr1 hr2 hb1 hbA hB2 HOP
  go_wp2_with fail
  refine HO2.out.mono ?_
  rintro e w3 ⟨rfl,hb3⟩
  have B3:=hide (B2.out.trans (hb3.mono B2.out.size))
  clear HO2 hb3 B2
  by_cases hoe:oe=0
  ·subst hoe
   obtain ⟨R,hR⟩:∃ R:Nat,rest.size=R:=⟨_,rfl⟩
   by_cases h16:R<16
   ·have j16:(R:Int)<16:=by omega
    have HU:=hide (show UU=([],⟨#[]⟩,10) by rw[HUL.out,if_neg (fun q=>q rfl),if_pos (by omega)])
    clear HUL h16
    go_wp2
    refine bodyPost_ret (results_tmp3 rfl _ _ _) rfl ?_
    exact ⟨by rw[HU.out];rfl,B3.out⟩
   ·have j16:¬ (R:Int)<16:=by omega
    have j17:(16:Int)≤(R:Int):=by omega
    have HU:=hide (show UU=(Ref.keyL ot (rest.extract 0 16).data.toList Ref.inBody,rest.extract 16 R,0) by rw[HUL.out,if_neg (fun q=>q rfl),if_neg (by omega),hR])
    have HK:=hide (fun w'=>refKey_any ⟨ot.toArray⟩ (rest.extract 0 16) ⟨#[112,97,121,108,111,97,100]⟩ w' (by rw[two_size];omega) (by rw[ByteArray.size_extract];omega) (by decide))
    rw[two_toList,show (expO (macL (rest.extract 0 16).data.toList ot) (⟨#[112,97,121,108,111,97,100]⟩:ByteArray).data.toList 1).take 32=Ref.keyL ot (rest.extract 0 16).data.toList Ref.inBody from rfl] at HK
    generalize (⟨ot.toArray⟩:ByteArray)=ob at *
    generalize hKK:(⟨(Ref.keyL ot (rest.extract 0 16).data.toList Ref.inBody).toArray⟩:ByteArray)=KK at *
    have HKK:=hide hKK
    clear HUL h16 hKK hol
    go_wp2_with fail
    refine (HK.out _).mono ?_
    rintro e w4 ⟨rfl,hb4⟩
    have B4:=hide (B3.out.trans (hb4.mono B3.out.size))
    clear HK hb4 B3
    go_wp2
    go_quiet (fail)
    go_wp2
    refine bodyPost_ret (results_tmp3 rfl _ _ _) rfl ?_
    exact ⟨by rw[HU.out];simp only;rw[HKK.out];rfl,below_drewN B4.out _⟩
  ·have z1:(oe != 0)=true:=by rw[bne_iff_ne];exact hoe
   have HU:=hide (show UU=([],⟨#[]⟩,oe) by rw[HUL.out,if_pos hoe])
   clear HUL hoe
   go_wp2
   refine bodyPost_ret (results_tmp3 rfl _ _ _) rfl ?_
   exact ⟨by rw[HU.out];rfl,B3.out⟩
namespace Ref
def Dcr (key:List UInt8) (i0:List UInt8) (i1:Nat) (i2:List UInt8) (i3:List UInt8 × Int):Prop:=∀ P:List UInt8→Nat→List UInt8→List UInt8 × Int→Prop,(∀ (n:Nat) (acc:List UInt8),P [] n acc ([],10))→(∀ (C:List UInt8) (n:Nat) (acc:List UInt8),C≠[]→C.length≤32→P C n acc (acc++(opnC key n true C).1,(opnC key n true C).2))→(∀ (C:List UInt8) (n:Nat) (acc:List UInt8),32<C.length→(opnC key n false (C.take 32)).2≠0→P C n acc (acc,(opnC key n false (C.take 32)).2))→(∀ (C:List UInt8) (n:Nat) (acc:List UInt8) (r:List UInt8 × Int),32<C.length→(opnC key n false (C.take 32)).2=0→P (C.drop 32) (n+1) (acc++(opnC key n false (C.take 32)).1) r→P C n acc r)→P i0 i1 i2 i3
theorem Dcr.none {key:List UInt8} (n:Nat) (acc:List UInt8):Dcr key [] n acc ([],10):=fun _ c0 _ _ _=>c0 n acc
theorem Dcr.last {key:List UInt8} (C:List UInt8) (n:Nat) (acc:List UInt8) (h0:C≠[]) (h1:C.length≤32):Dcr key C n acc (acc++(opnC key n true C).1,(opnC key n true C).2):=fun _ _ c1 _ _=>c1 C n acc h0 h1
theorem Dcr.bad {key:List UInt8} (C:List UInt8) (n:Nat) (acc:List UInt8) (h0:32<C.length) (h1:(opnC key n false (C.take 32)).2≠0):Dcr key C n acc (acc,(opnC key n false (C.take 32)).2):=fun _ _ _ c2 _=>c2 C n acc h0 h1
theorem Dcr.more {key:List UInt8} (C:List UInt8) (n:Nat) (acc:List UInt8) (r:List UInt8 × Int) (h0:32<C.length) (h1:(opnC key n false (C.take 32)).2=0) (h2:Dcr key (C.drop 32) (n+1) (acc++(opnC key n false (C.take 32)).1) r):Dcr key C n acc r:=fun P c0 c1 c2 c3=>c3 C n acc r h0 h1 (h2 P c0 c1 c2 c3)
theorem Dcr.ind {key:List UInt8} {motive:∀ i0 i1 i2 i3,Dcr key i0 i1 i2 i3→Prop} (none:∀ n acc,motive _ _ _ _ (Dcr.none n acc)) (last:∀ C n acc h0 h1,motive _ _ _ _ (Dcr.last C n acc h0 h1)) (bad:∀ C n acc h0 h1,motive _ _ _ _ (Dcr.bad C n acc h0 h1)) (more:∀ C n acc r h0 h1 h2,motive _ _ _ _ h2→motive _ _ _ _ (Dcr.more C n acc r h0 h1 h2)) {i0 i1 i2 i3} (h:Dcr key i0 i1 i2 i3):motive _ _ _ _ h:=by
 obtain ⟨_,q⟩:=h (fun i0 i1 i2 i3=>∃ h,motive i0 i1 i2 i3 h) (fun n acc=>⟨_,none n acc⟩) (fun C n acc h0 h1=>⟨_,last C n acc h0 h1⟩) (fun C n acc h0 h1=>⟨_,bad C n acc h0 h1⟩) (fun C n acc r h0 h1 h2=>h2.elim fun h2 q2=>⟨_,more C n acc r h0 h1 h2 q2⟩)
 exact q
theorem opnC_not13 (key:List UInt8) (n:Nat) (last:Bool) (bx:List UInt8):(opnC key n last bx).2≠13:=by
 rcases opnC_num key n last bx with h | h | ⟨_,h | h⟩ | ⟨_,h⟩ <;> (rw[h];decide)
theorem run_done {r:Rd} {t:List UInt8} {e:Int} (h:Rd.Run r t e) (ht:r.text=[]) (he:r.e≠0):t=[]∧e=r.e:=by
 have hst:∀ r1,Rd.Fill r r1→r1=r:=fun r1 hf=>hf.det (Rd.Fill.stay r (fun q=>he q.2))
 cases h using Ref.Rd.Run.elim with
 | stop _ _ hf _=>obtain rfl:=hst _ hf;exact ⟨rfl,rfl⟩
 | more _ _ _ _ hf hn _=>obtain rfl:=hst _ hf;exact absurd ht hn
theorem dcr_run {key C:List UInt8} {n:Nat} {acc:List UInt8} {ans:List UInt8 × Int} (h:Dcr key C n acc ans):∀ (r:Rd) (t:List UInt8) (e:Int),r.key=key→r.rem=C→r.n=n→r.text=[]→r.e=0→r.ahead.length≤1→r.x.at_≤r.x.s.size→Src.Calm r.x.plan→Rd.Run r t e→(if ans.2≠0 then ([],ans.2) else ans)=(if e=13 then (acc++t,0) else ([],e)):=by
 induction h using Ref.Dcr.ind with
 | none n acc=>
  intro r t e hk hC hn ht he ha hx hc hR
  cases hR using Ref.Rd.Run.elim with
  | stop _ r1 hf h0=>
   have N:=Rd.next hf ht he ha hx hc
   rw[(N.none hC).2]
   rfl
  | more _ r1 t1 _ hf h0 _=>
   have N:=Rd.next hf ht he ha hx hc
   exact absurd (N.none hC).1 h0
 | last C n acc h0 h1=>
  intro r t e hk hC hn ht he ha hx hc hR
  have fin:∀ r1,Rd.Fill r r1→(((opnC key n true C).2≠0∧r1.text=[]∧r1.e=(opnC key n true C).2)∨((opnC key n true C).2=0∧r1.text=(opnC key n true C).1∧r1.e=13)):=fun r1 hf=>by
   have N:=((Rd.next hf ht he ha hx hc).last (by rw[hC];exact h0) (by rw[hC];exact h1)).2
   rw[hC,hk,hn] at N
   exact N
  cases hR using Ref.Rd.Run.elim with
  | stop _ r1 hf q=>
   rcases fin r1 hf with ⟨a,_,c⟩ | ⟨a,b,c⟩
   ·rw[c,if_pos a,if_neg (opnC_not13 _ _ _ _)]
   ·rw[c,if_neg (fun z=>z a),if_pos rfl,←b,q,a]
  | more _ r1 t1 _ hf q hr=>
   rcases fin r1 hf with ⟨_,b,_⟩ | ⟨a,b,c⟩
   ·exact absurd b q
   ·have hl:r1.text.length≤16:=by
     rw[b]
     rcases opnC_cases key n true C with ⟨_,z,_⟩ | ⟨z,_⟩
     ·omega
     ·exact absurd a z
    obtain ⟨d1,d2⟩:=run_done hr (show r1.text.drop 16=[] from List.drop_eq_nil_of_le hl) (show r1.e≠0 by rw[c];decide)
    have d3:e=13:=d2.trans c
    rw[d1,d3,if_neg (fun z=>z a),if_pos rfl,List.take_of_length_le hl,List.append_nil,b,a]
 | bad C n acc h1 h2=>
  intro r t e hk hC hn ht he ha hx hc hR
  have fin:∀ r1,Rd.Fill r r1→r1.text=[]∧r1.e=(opnC key n false (C.take 32)).2:=fun r1 hf=>by
   have N:=(Rd.next hf ht he ha hx hc).more (by rw[hC];exact h1)
   rw[hC,hk,hn] at N
   rcases N with ⟨_,b,c⟩ | ⟨a,_⟩
   ·exact ⟨b,c⟩
   ·exact absurd a h2
  cases hR using Ref.Rd.Run.elim with
  | stop _ r1 hf q=>rw[(fin r1 hf).2,if_pos h2,if_neg (opnC_not13 _ _ _ _)]
  | more _ r1 t1 _ hf q _=>exact absurd (fin r1 hf).1 q
 | more C n acc ans h1 h2 hd ih=>
  intro r t e hk hC hn ht he ha hx hc hR
  have fin:∀ r1,Rd.Fill r r1→r1.text=(opnC key n false (C.take 32)).1∧r1.e=0∧r1.key=key∧r1.n=n+1∧r1.rem=C.drop 32∧r1.ahead.length=1∧r1.x.at_≤r1.x.s.size∧r1.x.plan=r.x.plan:=fun r1 hf=>by
   have N0:=Rd.next hf ht he ha hx hc
   have N:=N0.more (by rw[hC];exact h1)
   rw[hC,hk,hn] at N
   rcases N with ⟨a,_⟩ | ⟨_,b,c,d,f,g,i⟩
   ·exact absurd h2 a
   ·exact ⟨b,c,d,f,g,i,N0.at_,N0.plan⟩
  have hl:(opnC key n false (C.take 32)).1.length=16:=by
   rcases opnC_cases key n false (C.take 32) with ⟨_,z,_⟩ | ⟨z,_⟩
   ·rw[List.length_take] at z;omega
   ·exact absurd h2 z
  cases hR using Ref.Rd.Run.elim with
  | stop _ r1 hf q=>
   have:=(fin r1 hf).1
   rw[q] at this
   rw[←this] at hl
   exact absurd hl (by decide)
  | more _ r1 t1 _ hf q hr=>
   obtain ⟨b,c,d,f,g,i,j,k⟩:=fin r1 hf
   have h16:r1.text.take 16=(opnC key n false (C.take 32)).1:=by rw[b,List.take_of_length_le (by omega)]
   rw[ih (r1.tell 16) t1 e d g f (show r1.text.drop 16=[] from List.drop_eq_nil_of_le (by rw[b];omega)) c (by show r1.ahead.length≤1;omega) j (by show Src.Calm r1.x.plan;rw[k];exact hc) hr,h16,List.append_assoc]
def DecM (m:List UInt8) (file:ByteArray) (j:Nat) (i0:List UInt8 × Int):Prop:=∀ P:List UInt8 × Int→Prop,(m.length≠32→P ([],1))→(m.length=32→(ulk m (file.extract 0 j) (file.extract j file.size)).2.2≠0→P ([],(ulk m (file.extract 0 j) (file.extract j file.size)).2.2))→(∀ (ans:List UInt8 × Int),m.length=32→(ulk m (file.extract 0 j) (file.extract j file.size)).2.2=0→Dcr (ulk m (file.extract 0 j) (file.extract j file.size)).1 (ulk m (file.extract 0 j) (file.extract j file.size)).2.1.data.toList 0 [] ans→P ans)→P i0
theorem DecM.len {m:List UInt8} {file:ByteArray} {j:Nat} (h0:m.length≠32):DecM m file j ([],1):=fun _ c0 _ _=>c0 h0
theorem DecM.bad {m:List UInt8} {file:ByteArray} {j:Nat} (h0:m.length=32) (h1:(ulk m (file.extract 0 j) (file.extract j file.size)).2.2≠0):DecM m file j ([],(ulk m (file.extract 0 j) (file.extract j file.size)).2.2):=fun _ _ c1 _=>c1 h0 h1
theorem DecM.run {m:List UInt8} {file:ByteArray} {j:Nat} (ans:List UInt8 × Int) (h0:m.length=32) (h1:(ulk m (file.extract 0 j) (file.extract j file.size)).2.2=0) (h2:Dcr (ulk m (file.extract 0 j) (file.extract j file.size)).1 (ulk m (file.extract 0 j) (file.extract j file.size)).2.1.data.toList 0 [] ans):DecM m file j ans:=fun _ _ _ c2=>c2 ans h0 h1 h2
theorem DecM.elim {m:List UInt8} {file:ByteArray} {j:Nat} {motive:∀ i0,DecM m file j i0→Prop} (len:∀ h0,motive _ (DecM.len h0)) (bad:∀ h0 h1,motive _ (DecM.bad h0 h1)) (run:∀ ans h0 h1 h2,motive _ (DecM.run ans h0 h1 h2)) {i0} (h:DecM m file j i0):motive _ h:=by
 obtain ⟨_,q⟩:=h (fun i0=>∃ h,motive i0 h) (fun h0=>⟨_,len h0⟩) (fun h0 h1=>⟨_,bad h0 h1⟩) (fun ans h0 h1 h2=>⟨_,run ans h0 h1 h2⟩)
 exact q
end Ref
theorem decP_ref {m:List UInt8} {file:ByteArray} {a b:List UInt8 × Int} {j:Nat} (h:DecP m file a) (h2:Ref.DecM m file j b) (hj:SplO file.data.toList j):a=if b.2≠0 then ([],b.2) else b:=by
 cases h using DecP.elim with
 | bad y k key hn hk=>
  rcases new_ulk hn hj with ⟨q,rfl⟩ | ⟨q,_,q2⟩ | ⟨_,q,_⟩
  ·cases h2 using Ref.DecM.elim with
   | len=>rfl
   | bad z=>exact absurd z q
   | run _ z=>exact absurd z q
  ·cases h2 using Ref.DecM.elim with
   | len z=>exact absurd q z
   | bad=>rw[if_pos (by rw[q2];exact hk),q2]
   | run _ _ z=>exact absurd (q2.symm.trans z) hk
  ·exact absurd q hk
 | run y key t e hn hr=>
  rcases new_ulk hn hj with ⟨_,q⟩ | ⟨_,q,_⟩ | ⟨q,_,q2,q3⟩
  ·exact absurd q (by decide)
  ·exact absurd rfl q
  ·cases h2 using Ref.DecM.elim with
   | len z=>exact absurd q z
   | bad _ z=>rw[q3] at z;exact absurd rfl z
   | run ans _ _ hd=>
    rw[q3] at hd
    have hs:=New.src hn (Nat.zero_le _)
    have hys:y.s=file:=hs.1
    have hyp:y.plan=[]:=hs.2.1
    rw[Ref.dcr_run hd ⟨y,key,0,[],[],0⟩ t e rfl (by show []++y.rest=_;rw[List.nil_append,ext_end];unfold Src.rest;rw[hys]) rfl rfl rfl (Nat.zero_le _) (by show y.at_≤y.s.size;rw[hys];exact q2) (by show Src.Calm y.plan;rw[hyp];exact src0_calm file) hr]
    rfl
theorem ulk_facts {m:List UInt8} {top rest:ByteArray} (h:(Ref.ulk m top rest).2.2=0):(Ref.ulk m top rest).1.length=32∧(Ref.ulk m top rest).2.1.size≤rest.size:=by
 unfold Ref.ulk at h ⊢
 by_cases h1:(Ref.opnA m top).2≠0
 ·rw[if_pos h1] at h;exact absurd h h1
 ·rw[if_neg h1] at h ⊢
  by_cases h2:rest.size<16
  ·rw[if_pos h2] at h;exact absurd h (by decide)
  ·rw[if_neg h2];exact ⟨Ref.keyL_len _ _ _,by show (rest.extract 16 rest.size).size≤_;rw[ByteArray.size_extract];omega⟩
def DecMP (m file:ByteArray) (w:World) (e:Ending) (w':World):Prop:=∃ j ans,SplO file.data.toList j∧Ref.DecM m.data.toList file j ans∧e = .returned (ansV ans)∧Below w.heap.size w w'
def DcR (w:World) (kk body:List UInt8) (vb vt vn:Value) (wr:World):Prop:=∃ (C acc:List UInt8) (k:Nat),vb = .string ⟨C.toArray⟩∧vt = .string ⟨acc.toArray⟩∧vn = .int .i64 (k:Nat)∧C.length+32*k≤body.length∧acc.length≤32*k∧(∀ ans,Ref.Dcr kk C k acc ans→Ref.Dcr kk body 0 [] ans)∧Below w.heap.size w wr
set_option maxRecDepth 100000 in
set_option maxHeartbeats 3200000 in
theorem refDec_any (m file:ByteArray) (w:World) (hz:file.size≤1099511627776):
  Calls Tryz.prog 91 #[.string m,.string file] w (DecMP m file w):=by
 generalize hPP:DecMP m file w=PP
 by_cases hl:m.size=32
 ·have jl:((m.size:Int)==32)=true:=by rw[beq_iff_eq];omega
  have jl2:((m.size:Int) != 32)=false:=by simp only[bne,jl];rfl
  have HML:=hide (show m.data.toList.length=32 by rw[ba_len,hl])
  have HSP:=hide (refSplit_any file w hz)
  have HRU:=hide (fun j (hj:SplO file.data.toList j) w'=>refUnlocked_any m (file.extract 0 j) (file.extract j file.size) w' hl (by rw[ByteArray.size_extract];rcases hj with ⟨k,a,_,_,rfl⟩ | ⟨_,rfl⟩ <;> omega) (by rw[ByteArray.size_extract];omega))
  clear hl jl
  go_enter Tryz.func91,Tryz.ntmps91
  go_wp2_with fail
  refine HSP.out.mono ?_
  rintro e w1 ⟨j,hj,rfl,hb1⟩
  have HJ:=hide hj
  have HU1:=hide (HRU.out j hj w1)
  have HBD:=hide (fun h=>Ref.DecM.bad (m:=m.data.toList) (file:=file) (j:=j) HML.out h)
  have HRN:=hide (fun ans h1 h2=>Ref.DecM.run (m:=m.data.toList) (file:=file) (j:=j) ans HML.out h1 h2)
  have huf:=ulk_facts (m:=m.data.toList) (top:=file.extract 0 j) (rest:=file.extract j file.size)
  have hrs:(file.extract j file.size).size≤file.size:=by rw[ByteArray.size_extract];omega
  have B1:=hide hb1
  generalize Ref.ulk m.data.toList (file.extract 0 j) (file.extract j file.size)=uu at *
  generalize file.extract 0 j=ft at *
  generalize file.extract j file.size=fr at *
  obtain ⟨kk,ch,ue⟩:=uu
  simp only at HU1 huf HBD HRN
  clear HSP HRU hj hb1
  go_wp2_with fail
  refine HU1.out.mono ?_
  rintro e w2 ⟨rfl,hb2⟩
  have B2:=hide (B1.out.trans (hb2.mono B1.out.size))
  clear HU1 hb2 B1
  by_cases hue:ue=0
  ·subst hue
   obtain ⟨hkl,hcs⟩:=huf rfl
   have hkz:(⟨kk.toArray⟩:ByteArray).size=32:=by rw[two_size,hkl]
   have HOP:=hide (fun n last (bx:ByteArray) w' (hn:n≤1125899906842624) (hb:bx.size≤32)=>refOpened_any ⟨kk.toArray⟩ n last bx w' hkz hn (by omega))
   rw[two_toList] at HOP
   unfold ansV at HOP
   obtain ⟨CL,hCL⟩:∃ CL,ch.data.toList=CL:=⟨_,rfl⟩
   obtain rfl:ch=⟨CL.toArray⟩:=ba_ext (by rw[hCL,two_toList])
   have hFb:CL.length≤1099511627776:=by have:(⟨CL.toArray⟩:ByteArray).size=CL.length:=two_size _;omega
   have HR0:=hide (show DcR w kk CL (.string ⟨CL.toArray⟩) (.string ⟨#[]⟩) (.int .i64 0) w2 from ⟨CL,[],0,rfl,rfl,rfl,by omega,by simp,fun _ h=>h,B2.out⟩)
   have HFI:=hide (fun ans (h:Ref.Dcr kk CL 0 [] ans)=>HRN.out ans rfl (by rw[two_toList];exact h))
   generalize hKB:(⟨kk.toArray⟩:ByteArray)=KB at *
   clear huf hcs hkl hkz HBD HRN hCL hKB B2
   go_wp2
   go_loopw [9,11,12] (fun vb vt vn wr=>DcR w kk CL vb vt vn wr) (fun vb _ _ _=>strLen vb)
   case atStart=>exact HR0.out
   case round=>
    clear HR0
    obtain ⟨C,acc,k,rfl,rfl,rfl,hCk,hak,hD,hbe⟩:=hrel
    have HD:=hide hD
    have HBE:=hide hbe
    have hCz:(⟨C.toArray⟩:ByteArray).size=C.length:=two_size _
    have haz:(⟨acc.toArray⟩:ByteArray).size=acc.length:=two_size _
    obtain ⟨L,hL⟩:∃ L:Nat,C.length=L:=⟨_,rfl⟩
    rw[hL] at hCz hCk
    have HL:=hide hL
    have hkb:k≤1125899906842624:=by omega
    clear hD hbe
    by_cases h32:32<L
    ·have j32:(32:Int)<(L:Int):=by omega
     have j33:(32:Int)≤(L:Int):=by omega
     have hEz:((⟨C.toArray⟩:ByteArray).extract 0 32).size=32:=by rw[ByteArray.size_extract];omega
     have HO1:=hide (fun w'=>HOP.out k false ((⟨C.toArray⟩:ByteArray).extract 0 32) w' hkb (by omega))
     rw[ext_take,two_toList] at HO1
     have HBA:=hide (fun h=>HD.out _ (Ref.Dcr.bad C k acc (by rw[hL];exact h32) h))
     have HMO:=hide (fun h ans h2=>HD.out ans (Ref.Dcr.more C k acc ans (by rw[hL];exact h32) h h2))
     have hol:(Ref.opnC kk k false (C.take 32)).1.length≤32:=by
      rcases Ref.opnC_cases kk k false (C.take 32) with ⟨_,z,_⟩ | ⟨_,z⟩
      ·rw[List.length_take] at z;omega
      ·rw[z];exact Nat.zero_le _
     have HDR:=hide (show (⟨C.toArray⟩:ByteArray).extract 32 L=⟨(C.drop 32).toArray⟩ from ba_ext (by rw[sub_list,two_toList,List.take_of_length_le (by rw[List.length_drop];omega)]))
     have HDL:=hide (show (C.drop 32).length=L-32 by rw[List.length_drop,hL])
     generalize Ref.opnC kk k false (C.take 32)=oo at *
     obtain ⟨ot,oe⟩:=oo
     simp only at HO1 HBA HMO hol
     have hoz:(⟨ot.toArray⟩:ByteArray).size=ot.length:=two_size _
     have HAP:=hide (show (⟨acc.toArray⟩:ByteArray)++(⟨ot.toArray⟩:ByteArray)=⟨(acc++ot).toArray⟩ from ba_ext (by rw[ba_list,two_toList,two_toList,two_toList]))
     have HAL:=hide (show (acc++ot).length≤32*(k+1) by rw[List.length_append];omega)
     generalize hCB:(⟨C.toArray⟩:ByteArray)=CB at *
     generalize hAB:(⟨acc.toArray⟩:ByteArray)=AB at *
     generalize (⟨ot.toArray⟩:ByteArray)=OB at *
     have HAB:=hide hAB
     have u1:¬ (9223372036854775807<AB.size+OB.size):=by omega
     have HNUM:=hide (And.intro hCk (And.intro h32 hCz))
     clear h32 hL hol hoz haz hCB hAB hak
     by_cases hoe:oe=0
     ·subst hoe
      go_wp2_with fail
      refine (HO1.out _).mono ?_
      rintro e w4 ⟨rfl,hb4⟩
      have HBE4:=hide (HBE.out.trans (hb4.mono HBE.out.size))
      clear HO1 hb4
      go_wp2
      go_roundw
      case rel=>exact ⟨C.drop 32,acc++ot,k+1,by rw[HDR.out],by rw[HAP.out],by go_num,by rw[HDL.out];have:=HNUM.out;omega,HAL.out,fun ans h=>HMO.out (by first | rfl | trivial) ans h,HBE4.out⟩
      case measure=>have h:=HNUM.out;simp only[strLen,ByteArray.size_extract];omega
     ·have z1:(oe != 0)=true:=by rw[bne_iff_ne];exact hoe
      have HR:=hide (HFI.out _ (HBA.out hoe))
      clear HMO HBA hoe
      go_wp2_with fail
      refine (HO1.out _).mono ?_
      rintro e w4 ⟨rfl,hb4⟩
      have HBE4:=hide (HBE.out.trans (hb4.mono HBE.out.size))
      clear HO1 hb4
      go_wp2
      rw[←hPP]
      exact ⟨j,(acc,oe),HJ.out,HR.out,by unfold ansV;rw[HAB.out];rfl,HBE4.out⟩
    ·have j32:¬ (32:Int)<(L:Int):=by omega
     by_cases h0:L=0
     ·obtain rfl:C=[]:=List.eq_nil_of_length_eq_zero (by rw[hL,h0])
      have HR:=hide (HFI.out _ (HD.out _ (Ref.Dcr.none k acc)))
      clear hL hCk hak
      go_wp2
      rw[←hPP]
      exact ⟨j,([],10),HJ.out,HR.out,rfl,HBE.out⟩
     ·have zc:((⟨C.toArray⟩:ByteArray).toList==[])=false:=str_neL (fun e=>h0 (by rw[two_toList] at e;rw[←hL,e];rfl))
      have HO1:=hide (fun w'=>HOP.out k true (⟨C.toArray⟩:ByteArray) w' hkb (by omega))
      rw[two_toList] at HO1
      have HR:=hide (HFI.out _ (HD.out _ (Ref.Dcr.last C k acc (fun e=>h0 (by rw[←hL,e];rfl)) (by omega))))
      have hol:(Ref.opnC kk k true C).1.length≤32:=by
       rcases Ref.opnC_cases kk k true C with ⟨_,z,_⟩ | ⟨_,z⟩
       ·omega
       ·rw[z];exact Nat.zero_le _
      generalize Ref.opnC kk k true C=oo at *
      obtain ⟨ot,oe⟩:=oo
      simp only at HO1 HR hol
      have hoz:(⟨ot.toArray⟩:ByteArray).size=ot.length:=two_size _
      have HAP:=hide (show (⟨acc.toArray⟩:ByteArray)++(⟨ot.toArray⟩:ByteArray)=⟨(acc++ot).toArray⟩ from ba_ext (by rw[ba_list,two_toList,two_toList,two_toList]))
      generalize hCB:(⟨C.toArray⟩:ByteArray)=CB at *
      generalize (⟨acc.toArray⟩:ByteArray)=AB at *
      generalize (⟨ot.toArray⟩:ByteArray)=OB at *
      have u1:¬ (9223372036854775807<AB.size+OB.size):=by omega
      clear h32 hL hol hoz haz hCB hak h0 hCk
      go_wp2_with fail
      refine (HO1.out _).mono ?_
      rintro e w4 ⟨rfl,hb4⟩
      have HBE4:=hide (HBE.out.trans (hb4.mono HBE.out.size))
      clear HO1 hb4
      go_wp2
      rw[←hPP]
      exact ⟨j,(acc++ot,oe),HJ.out,HR.out,by unfold ansV;rw[←HAP.out];rfl,HBE4.out⟩
  ·have z1:(ue != 0)=true:=by rw[bne_iff_ne];exact hue
   have HR:=hide (HBD.out hue)
   generalize (⟨kk.toArray⟩:ByteArray)=kb at *
   clear hue huf HBD HRN
   go_wp2
   rw[←hPP]
   exact ⟨j,([],ue),HJ.out,HR.out,rfl,B2.out⟩
 ·have jl:((m.size:Int)==32)=false:=beq_eq_false_iff_ne.2 (by omega)
  have jl2:((m.size:Int) != 32)=true:=by simp only[bne,jl];rfl
  obtain ⟨j,hj⟩:∃ j,SplO file.data.toList j:=by
   obtain ⟨e,w',fr,⟨j,hj,_⟩,_⟩:=refSplit_any file w hz []
   exact ⟨j,hj⟩
  have HR:=hide (Ref.DecM.len (m:=m.data.toList) (file:=file) (j:=j) (by rw[ba_len];exact hl))
  have HJ:=hide hj
  clear hj hl jl
  go_enter Tryz.func91,Tryz.ntmps91
  go_wp2
  rw[←hPP]
  exact ⟨j,([],1),HJ.out,HR.out,rfl,Below.refl _ _⟩
theorem Std.twoRd {base B M:Nat} {σ:Sig} {w w':World} (h:Std base B M σ w w') (i:Nat) (p:RdR) (hp:σ.rd[i]? = some p):
  ∃ g c,σ.vrd = .slice (some ⟨g,0,none⟩) σ.rd.length c∧c≤2 ^ 63-1∧∀ w2,Std base B M σ w w2→w2.cell? ⟨g,i*2,none⟩=some (.pointer (some ⟨p.bx,0,none⟩))∧w2.cell? ⟨g,i*2+1,none⟩=some (.pointer (some ⟨p.bm,0,none⟩)):=by
 obtain ⟨⟨T,h1⟩,_⟩:=h
 have hl:=(List.getElem?_eq_some_iff.1 hp).1
 obtain ⟨g,c,hv,_,hm,_⟩:=RowT.cells2 (f:=fun p:RdR=>ptrs p.bx p.bm) (fun _=>rfl) h1.rrd (by omega)
 refine ⟨g,c,hv,hm,fun w2 h2=>?_⟩
 obtain ⟨⟨T2,h3⟩,_⟩:=h2
 obtain ⟨g',c',hv',_,_,_,_,_,hcell⟩:=RowT.cells2 (f:=fun p:RdR=>ptrs p.bx p.bm) (fun _=>rfl) h3.rrd (by omega)
 rw[hv] at hv'
 injection hv' with e1 _ _
 injection e1 with e1
 injection e1 with e1 _ _
 subst e1
 exact ⟨hcell i p hp 0 _ rfl,hcell i p hp 1 _ rfl⟩
theorem Std.lenRd {base B M:Nat} {σ:Sig} {w w':World} (h:Std base B M σ w w'):∃ ao c,σ.vrd = .slice ao σ.rd.length c:=by
 obtain ⟨⟨T,h1⟩,_⟩:=h
 obtain ⟨a1,b1,e1,_⟩:=h1.rrd.zero
 exact ⟨a1,b1,e1⟩
theorem Std.below {base B M:Nat} {σ:Sig} {w w1 w2:World} (h:Std base B M σ w w1) (hb:Below w1.heap.size w1 w2):Std base B M σ w w2:=by
 obtain ⟨⟨T,h1⟩,h2⟩:=h
 exact ⟨⟨_,h1.below hb⟩,h2.trans (hb.mono h1.bsz)⟩
def rmV (b:Nat) (come:ByteArray) (fin:Bool) (key:ByteArray) (n:Nat) (text:ByteArray) (e:Int):List Value:=[.pointer (some ⟨b,0,none⟩),.string come,.bool fin,.string key,.int .i64 (n:Nat),.string text,.int .i64 e]
def AskR (rb b g:Nat) (x:Src) (come:ByteArray) (n:Nat) (key:ByteArray) (m:Nat) (text:ByteArray) (e:Int) (w:World) (wr:World):Prop:=∃ (y:Src) (fin:Bool),Blk wr rb 185 (rmV b (gotS come x y) fin key m text e)∧SrcRep b g y wr∧Chg (fun k=>k=rb∨k=b) w wr∧y.s=x.s∧y.plan=x.plan∧x.at_≤y.at_∧come.size+(y.at_-x.at_)≤n∧(fin=false→∀ z c,Src.Ask y (n-(come.size+(y.at_-x.at_))) z c→Src.Ask x (n-come.size) z c)∧(fin=true→Src.Ask x (n-come.size) y 1)
def finOf (rb:Nat) (w:World):Nat:=match w.cell? ⟨rb,2,none⟩ with
 | some (.bool true)=>0
 | _=>1
theorem finOf_eq {rb b:Nat} {come key text:ByteArray} {fin:Bool} {n:Nat} {e:Int} {w:World} (h:Blk w rb 185 (rmV b come fin key n text e)):finOf rb w=if fin then 0 else 1:=by
 unfold finOf
 rw[h.cell (i:=2) rfl]
 cases fin <;> rfl
def comeOf (rb:Nat) (w:World):Nat:=match w.cell? ⟨rb,1,none⟩ with
 | some (.string s)=>s.size
 | _=>0
theorem comeOf_eq {rb b:Nat} {come key text:ByteArray} {fin:Bool} {n:Nat} {e:Int} {w:World} (h:Blk w rb 185 (rmV b come fin key n text e)):comeOf rb w=come.size:=by
 unfold comeOf
 rw[h.cell (i:=1) rfl]
set_option maxRecDepth 100000 in
set_option maxHeartbeats 1600000 in
theorem refAsk_any (rb b g:Nat) (x:Src) (come:ByteArray) (n:Nat) (key:ByteArray) (m:Nat) (text:ByteArray) (e0:Int) (w:World) (hB:Blk w rb 185 (rmV b come false key m text e0)) (h:SrcRep b g x w) (hrb:rb≠b) (hrg:rb≠g) (hgot:come.size≤n) (hn:n≤1000):
  Calls Tryz.prog 142 #[.pointer (some ⟨rb,0,none⟩),.int .i64 (n:Nat)] w fun e w'=>
   ∃ y c,Src.Ask x (n-come.size) y c∧e = .returned (.int .i64 (if c=2 then 17 else 0))∧Blk w' rb 185 (rmV b (gotS come x y) (decide (c=1)) key m text e0)∧SrcRep b g y w'∧Chg (fun k=>k=rb∨k=b) w w':=by
 have H0:=hide (show AskR rb b g x come n key m text e0 w w from ⟨x,false,by rw[show gotS come x x=come from ba_ext (by unfold gotS;rw[ba_list,sub_list];simp)];exact hB,h,Chg.refl _ _,rfl,rfl,Nat.le_refl _,by omega,fun _ z c h=>by rw[Nat.sub_self,Nat.add_zero] at h;exact h,fun h=>by cases h⟩)
 have hxs:=h.sz
 have hxa:=h.at_
 clear h hB
 go_enter Tryz.func142,Tryz.ntmps142
 go_wp2
 go_loopw [] (fun wr=>AskR rb b g x come n key m text e0 w wr) (fun wr=>(x.plan.length-stepOf b wr)+(n-comeOf rb wr)+finOf rb wr)
 case atStart=>exact H0.out
 case round=>
  clear H0
  obtain ⟨y,fin,hB,hr,hG,hys,hyp,hge,hle,hk,hk1⟩:=hrel
  have hya:=hr.at_
  rw[hys] at hya
  have hgs:=gotS_size (got:=come) hge hya
  have hstp:=hr.step
  have hcom:=comeOf_eq hB
  have hfin:=finOf_eq hB
  have HFN:=hide hfin
  have HSP:=hide hstp
  have HCM:=hide hcom
  have HR:=hide hr
  have HG:=hide hG
  have HK:=hide hk
  have HK1:=hide hk1
  have HGS:=hide hgs
  obtain ⟨cur,hcur⟩:∃ c,gotS come x y=c:=⟨_,rfl⟩
  obtain ⟨q,hq⟩:∃ q:Nat,come.size+(y.at_-x.at_)=q:=⟨_,rfl⟩
  rw[hq] at hle HK hgs
  rw[hcur] at hgs hB
  have HCUR:=hide hcur
  have HQ:=hide hq
  have c0:=hB.cell (i:=0) rfl
  have c1:=hB.cell (i:=1) rfl
  have c2:=hB.cell (i:=2) rfl
  have hrl:=hB.lt
  have HB:=hide hB
  clear hr hG hk hk1 hstp hcur hq hcom hB hfin
  cases fin with
  | true=>
   have HA:=hide (HK1.out (by first | rfl | trivial))
   clear HK HK1
   by_cases hlt:q<n
   ·have jl:(q:Int)<(n:Int):=by omega
    go_wp2
    go_ret
    exact ⟨y,1,HA.out,rfl,by rw[HCUR.out];exact HB.out,HR.out,HG.out⟩
   ·have jl:¬ (q:Int)<(n:Int):=by omega
    go_wp2
    go_ret
    exact ⟨y,1,HA.out,rfl,by rw[HCUR.out];exact HB.out,HR.out,HG.out⟩
  | false=>
   by_cases hlt:q<n
   ·obtain ⟨d,hd⟩:∃ d:Nat,n-q=d:=⟨_,rfl⟩
    have td:(n:Int)-(q:Int)=(d:Int):=by omega
    have jl:(q:Int)<(n:Int):=by omega
    have hd0:0<d:=by omega
    have hd1:d≤1000:=by omega
    have hwd:IntKind.i64.wrap ((d:Nat):Int)=(d:Int):=IntWalk.i64_in _ (by omega)
    have hdr:Below wr.heap.size wr wr.drew:=⟨rfl,rfl,rfl,Nat.le_refl _,fun _ _=>rfl⟩
    have HRD:=hide (srcNext (HR.out.after hdr) d hd0 hd1)
    have HLT:=hide hlt
    have HD:=hide hd
    clear hlt hd hdr
    cases hrd:y.rd d with
    | none=>
     rw[hrd] at HRD
     simp only[srcAns] at HRD
     have HX:=hide hrd
     clear hrd
     go_wp2
     go_region_held3 (fun w'=>w'.cell? ⟨rb,0,none⟩=some (.pointer (some ⟨b,0,none⟩))∧w'.cell? ⟨rb,1,none⟩=some (.string cur)) (refine ⟨?_,?_⟩ <;> first | assumption | (exact ((show Blk wr.drew rb 185 (rmV b cur false key m text e0) from HB.out).grown hg1 (fun e=>hrb (by injection e with e))).cell rfl)) ((go_at_call 192;refine HRD.out.mono ?_;rintro e w1 ⟨rfl,hr1,hg1⟩))
     rename_i hH
     clear hH
     have HR1:=hide hr1
     have HBA:=hide ((show Blk wr.drew rb 185 (rmV b cur false key m text e0) from HB.out).grown hg1 (fun e=>hrb (by injection e with e)))
     have HG1:=hide (HG.out.grew (show wr.grownBy w1 (some b) from ⟨hg1.os,hg1.tape,hg1.output,hg1.size,hg1.block⟩) (.inl (.inr rfl)))
     clear hr1 hg1 HRD
     go_wp2
     go_ret
     refine ⟨y.next d,2,HK.out (by first | rfl | trivial) _ _ (by rw[HD.out];exact Src.Ask.fail y d hd0 HX.out),rfl,?_,HR1.out,HG1.out⟩
     have e1:(y.next d).at_=y.at_:=Src.next_none HX.out
     rw[show gotS come x (y.next d)=cur by rw[←HCUR.out];unfold gotS;rw[e1]]
     exact HBA.out
    | some p=>
     obtain ⟨mm,ee⟩:=p
     rw[hrd] at HRD
     have HX:=hide hrd
     have hms:=Src.rd_some HR.out.at_ hrd
     have hna:=Src.next_at hrd
     have hmeas:=fun (he:ee=false)=>Src.meas HR.out.at_ hd0 (by rw[hrd,he])
     rw[hys] at hms
     simp only[srcAns] at HRD
     rw[srcText_ext] at HRD
     have HCA:=hide (show cur++y.s.extract y.at_ (y.at_+mm)=gotS come x (y.next d) by rw[←HCUR.out,←hna];exact gotS_more hys hge (by rw[hna];omega) (by rw[hna];exact hms.2.1))
     have hez:(y.s.extract y.at_ (y.at_+mm)).size=mm:=by rw[ByteArray.size_extract,hys];omega
     generalize y.s.extract y.at_ (y.at_+mm)=pc at *
     have hm1:mm≤1000:=by omega
     have u1:¬ (9223372036854775807<cur.size+pc.size):=by omega
     have HMS:=hide hms
     have HNA:=hide hna
     have HME:=hide hmeas
     have HYG:=hide (And.intro hge hya)
     clear hrd hms hna hmeas
     go_wp2
     go_region_held3 (fun w'=>w'.cell? ⟨rb,0,none⟩=some (.pointer (some ⟨b,0,none⟩))∧w'.cell? ⟨rb,1,none⟩=some (.string cur)) (refine ⟨?_,?_⟩ <;> first | assumption | (exact ((show Blk wr.drew rb 185 (rmV b cur false key m text e0) from HB.out).grown hg1 (fun e=>hrb (by injection e with e))).cell rfl)) ((go_at_call 192;refine HRD.out.mono ?_;rintro e w1 ⟨rfl,hr1,hg1⟩))
     rename_i hH
     clear hH
     have hBA:=(show Blk wr.drew rb 185 (rmV b cur false key m text e0) from HB.out).grown hg1 (fun e=>hrb (by injection e with e))
     have a1:=hBA.cell (i:=1) rfl
     have fz:=hBA.frozen
     have a2:=hBA.cell (i:=2) rfl
     have hB2:Blk ((w1.setCell ⟨rb,1,none⟩ (.string (cur++pc))).setCell ⟨rb,2,none⟩ (.bool ee)) rb 185 (rmV b (cur++pc) ee key m text e0):=(hBA.setCell_same 1 _).setCell_same 2 _
     have hG2:w1.grownBy ((w1.setCell ⟨rb,1,none⟩ (.string (cur++pc))).setCell ⟨rb,2,none⟩ (.bool ee)) (some rb):=((World.grownBy.refl w1 (some rb)).setCell 1 _).setCell 2 _
     have HR2:=hide (hr1.keep hG2 hrb hrg)
     have HB2:=hide hB2
     have HG2:=hide ((HG.out.grew (show wr.grownBy w1 (some b) from ⟨hg1.os,hg1.tape,hg1.output,hg1.size,hg1.block⟩) (.inl (.inr rfl))).grew hG2 (.inl (.inl rfl)))
     clear hr1 hg1 HRD hBA hB2 hG2 c0 c1 c2
     go_wp2
     go_roundw
     case rel=>
      have h1:=HMS.out
      have h2:=HNA.out
      have h3:=HQ.out
      have h4:=HYG.out
      have h5:=HLT.out
      have h6:=HD.out
      refine ⟨y.next d,ee,by rw[←HCA.out];exact HB2.out,HR2.out,HG2.out,hys,hyp,by rw[h2];omega,by rw[h2];omega,fun he z c ha=>HK.out (by first | rfl | trivial) z c ?_,fun he=>?_⟩
      ·rw[h6]
       refine Src.Ask.more y d mm z c hd0 (by rw[HX.out,he]) ?_
       rw[show d-mm=n-(come.size+((y.next d).at_-x.at_)) by rw[h2];omega]
       exact ha
      ·refine HK.out (by first | rfl | trivial) _ _ ?_
       rw[h6]
       exact Src.Ask.over y d mm hd0 (by rw[HX.out,he])
     case measure=>
      rw[HR2.out.step,comeOf_eq HB2.out,finOf_eq HB2.out,HSP.out,HCM.out,HFN.out,HCUR.out,ba_sz,hez,hgs]
      have h1:=HMS.out
      have h5:=HLT.out
      have h6:=HD.out
      cases ee with
      | true=>
       have h8:=(Src.sinkAt_le y.plan y.step).1
       have h9:(y.next d).step=sinkAt y.plan y.step:=rfl
       simp
       omega
      | false=>
       have h7:=HME.out rfl
       rw[hyp] at h7
       simp
       omega
   ·have jl:¬ (q:Int)<(n:Int):=by omega
    have HA:=hide (HK.out (by first | rfl | trivial) y 0 (by rw[show n-q=0 by omega];exact Src.Ask.done y))
    clear hlt
    go_wp2
    go_ret
    exact ⟨y,0,HA.out,rfl,by rw[HCUR.out];exact HB.out,HR.out,HG.out⟩
def RmRep (rb b:Nat) (r:Ref.Rd) (w:World):Prop:=∃ come fin key n,Blk w rb 185 (rmV b come fin key n ⟨r.text.toArray⟩ r.e)∧(r.e=0→come=⟨r.ahead.toArray⟩∧fin=false∧key=⟨r.key.toArray⟩∧n=r.n)
theorem Rd.opn_two {r:Ref.Rd} {y:Src}:(r.opn y 2).text=[]∧(r.opn y 2).e=17:=⟨rfl,rfl⟩
theorem Rd.opn_none {r:Ref.Rd} {y:Src} {c:Nat} (hc:c≠2) (h:r.ahead.length+(y.at_-r.x.at_)=0):(r.opn y c).text=[]∧(r.opn y c).e=10:=by
 unfold Ref.Rd.opn
 rw[if_neg hc,if_pos h]
 exact ⟨rfl,rfl⟩
theorem Rd.opn_last {r:Ref.Rd} {y:Src} {c:Nat} (hc:c≠2) (h:r.ahead.length+(y.at_-r.x.at_)≠0) (h2:r.ahead.length+(y.at_-r.x.at_)≤32) {G:List UInt8} (hG:G=r.ahead++(r.x.s.extract r.x.at_ y.at_).data.toList):(r.opn y c).text=(Ref.opnC r.key r.n true G).1∧(r.opn y c).e=if (Ref.opnC r.key r.n true G).2=0 then 13 else (Ref.opnC r.key r.n true G).2:=by
 subst hG
 unfold Ref.Rd.opn
 rw[if_neg hc,if_neg h,if_pos h2]
 rcases Ref.opnC_cases r.key r.n true (r.ahead++(r.x.s.extract r.x.at_ y.at_).data.toList) with ⟨a,_⟩ | ⟨a,b⟩
 ·rw[if_neg (fun q=>q a),if_pos a];exact ⟨rfl,rfl⟩
 ·rw[if_pos a,if_neg a];exact ⟨b.symm,rfl⟩
theorem Rd.opn_mid {r:Ref.Rd} {y:Src} {c:Nat} (hc:c≠2) (h2:32<r.ahead.length+(y.at_-r.x.at_)) {G:List UInt8} (hG:G=r.ahead++(r.x.s.extract r.x.at_ y.at_).data.toList):(r.opn y c).text=(Ref.opnC r.key r.n false (G.take 32)).1∧(r.opn y c).e=(Ref.opnC r.key r.n false (G.take 32)).2∧((Ref.opnC r.key r.n false (G.take 32)).2=0→(r.opn y c).ahead=G.drop 32∧(r.opn y c).key=r.key∧(r.opn y c).n=r.n+1):=by
 subst hG
 unfold Ref.Rd.opn
 rw[if_neg hc,if_neg (by omega),if_neg (by omega)]
 rcases Ref.opnC_cases r.key r.n false ((r.ahead++(r.x.s.extract r.x.at_ y.at_).data.toList).take 32) with ⟨a,_⟩ | ⟨a,b⟩
 ·rw[if_neg (fun q=>q a)];exact ⟨rfl,a.symm,fun _=>⟨rfl,rfl,rfl⟩⟩
 ·rw[if_pos a];exact ⟨b.symm,rfl,fun q=>absurd q a⟩
set_option maxRecDepth 100000 in
set_option maxHeartbeats 4000000 in
theorem refOpen_any (rb b g:Nat) (r:Ref.Rd) (w:World) (hR:RmRep rb b r w) (hS:SrcRep b g r.x w) (hrb:rb≠b) (hrg:rb≠g) (he:r.e=0) (ht:r.text=[]) (hkl:r.key.length=32) (hal:r.ahead.length≤1) (hn:r.n<1125899906842624):
  Calls Tryz.prog 154 #[.pointer (some ⟨rb,0,none⟩)] w fun e w'=>(∃ v,e = .returned v)∧∃ y c,Src.Ask r.x (33-r.ahead.length) y c∧RmRep rb b (r.opn y c) w'∧SrcRep b g y w'∧Chg (fun x=>x=rb∨x=b) w w':=by
 obtain ⟨come,fin,key,m,hB,hq⟩:=hR
 obtain ⟨rfl,rfl,rfl,rfl⟩:=hq he
 rw[he,ht] at hB
 have haz:(⟨r.ahead.toArray⟩:ByteArray).size=r.ahead.length:=two_size _
 have HAS:=hide (refAsk_any rb b g r.x ⟨r.ahead.toArray⟩ 33 ⟨r.key.toArray⟩ r.n ⟨[].toArray⟩ 0 w hB hS hrb hrg (by omega) (by omega))
 rw[haz] at HAS
 have hxa:=hS.at_
 have hkz:(⟨r.key.toArray⟩:ByteArray).size=32:=by rw[two_size,hkl]
 have HOP:=hide (fun last (bx:ByteArray) w' (hb:bx.size≤33)=>refOpened_any ⟨r.key.toArray⟩ r.n last bx w' hkz (by omega) (by omega))
 rw[two_toList] at HOP
 unfold ansV at HOP
 obtain ⟨m,hm⟩:∃ m,r.n=m:=⟨_,rfl⟩
 rw[hm] at HAS HOP hn
 have HM:=hide hm
 generalize hPP:(fun (e:Ending) (w':World)=>(∃ v,e = .returned v)∧∃ y c,Src.Ask r.x (33-r.ahead.length) y c∧RmRep rb b (r.opn y c) w'∧SrcRep b g y w'∧Chg (fun x=>x=rb∨x=b) w w')=PP
 generalize hKB:(⟨r.key.toArray⟩:ByteArray)=KB at *
 have HKB:=hide hKB
 clear hB hS hm hKB hkz
 go_enter Tryz.func154,Tryz.ntmps154
 go_wp2_with fail
 refine HAS.out.mono ?_
 rintro e w1 ⟨y,c,hA,rfl,hB1,hS1,hC1⟩
 have L:=hA.left hxa
 have hle:=L.ge
 have hsz:=L.size
 rw[L.s] at hsz
 have hgs:=gotS_size (got:=⟨r.ahead.toArray⟩) hle hsz
 have hgl:(gotS ⟨r.ahead.toArray⟩ r.x y).data.toList=r.ahead++(r.x.s.extract r.x.at_ y.at_).data.toList:=by unfold gotS;rw[ba_list,two_toList]
 have hup:=L.le
 have HOV:=hide (fun (q:c=1)=>show r.ahead.length+(y.at_-r.x.at_)<33 by have:=L.short (by rw[q];decide);omega)
 rw[haz] at hgs
 have HA:=hide hA
 have HS1:=hide hS1
 have HC1:=hide hC1
 have HGL:=hide hgl
 obtain ⟨G,hG⟩:∃ G,gotS ⟨r.ahead.toArray⟩ r.x y=G:=⟨_,rfl⟩
 rw[hG] at hB1 hgs HGL
 obtain ⟨N,hN⟩:∃ N,r.ahead.length+(y.at_-r.x.at_)=N:=⟨_,rfl⟩
 rw[hN] at hgs HOV
 have HN:=hide hN
 have hN33:N≤33:=by omega
 clear HAS hA hS1 hC1 L hgl hG hle hsz hup hN
 have c1:=hB1.cell (i:=1) rfl
 have c3:=hB1.cell (i:=3) rfl
 have c4:=hB1.cell (i:=4) rfl
 have c5:=hB1.cell (i:=5) rfl
 have c6:=hB1.cell (i:=6) rfl
 have fz:=hB1.frozen
 have HB1:=hide hB1
 clear hB1
 by_cases hc:c=2
 ·subst hc
  go_wp2
  first | refine bodyPost_ret (res_none Tryz.results154 _ _ _) rfl ?_ | refine bodyPost_end (res_none Tryz.results154 _ _ _) rfl ?_
  rw[←hPP]
  obtain ⟨t1,t2⟩:=Rd.opn_two (r:=r) (y:=y)
  refine ⟨⟨_,rfl⟩,y,2,HA.out,⟨G,decide ((2:Nat)=1),KB,m,?_,fun h=>absurd (t2.symm.trans h) (by decide)⟩,HS1.out.keep ((World.grownBy.refl w1 (some rb)).setCell 6 _) hrb hrg,HC1.out.grew ((World.grownBy.refl w1 (some rb)).setCell 6 _) (.inl (.inl rfl))⟩
  rw[t1,t2]
  exact HB1.out.setCell_same 6 (.int .i64 17)
 ·rw[if_neg hc]
  have HNC:=hide hc
  by_cases h0:N=0
  ·have hGe:G=⟨#[]⟩:=ba_ext (List.eq_nil_of_length_eq_zero (by rw[ba_len];omega))
   have HOE:=hide (Rd.opn_none (r:=r) (y:=y) hc (by rw[HN.out];exact h0))
   rw[hGe] at c1
   clear hc
   go_wp2
   first | refine bodyPost_ret (res_none Tryz.results154 _ _ _) rfl ?_ | refine bodyPost_end (res_none Tryz.results154 _ _ _) rfl ?_
   rw[←hPP]
   obtain ⟨t1,t2⟩:=HOE.out
   refine ⟨⟨_,rfl⟩,y,c,HA.out,⟨G,decide (c=1),KB,m,?_,fun h=>absurd (t2.symm.trans h) (by decide)⟩,HS1.out.keep ((World.grownBy.refl w1 (some rb)).setCell 6 _) hrb hrg,HC1.out.grew ((World.grownBy.refl w1 (some rb)).setCell 6 _) (.inl (.inl rfl))⟩
   rw[t1,t2]
   exact HB1.out.setCell_same 6 (.int .i64 10)
  ·have zc:(G.toList==[])=false:=str_neL (fun e=>h0 (by rw[←hgs,←ba_len,e];rfl))
   by_cases h32:N≤32
   ·have j32:¬ (32:Int)<(N:Int):=by omega
    have HOE:=hide (Rd.opn_last (r:=r) (y:=y) hc (by rw[HN.out];exact h0) (by rw[HN.out];exact h32) HGL.out)
    have HO1:=hide (fun w'=>HOP.out true G w' (by omega))
    rw[HM.out] at HOE
    have hoc:=Ref.opnC_num r.key m true G.data.toList
    generalize Ref.opnC r.key m true G.data.toList=oo at *
    obtain ⟨ot,oe⟩:=oo
    simp only at HO1 HOE hoc
    generalize hOT:(⟨ot.toArray⟩:ByteArray)=OT at *
    have HOT:=hide hOT
    have hB2:Blk (w1.setCell ⟨rb,1,none⟩ (.string ByteArray.empty)) rb 185 (rmV b ByteArray.empty (decide (c=1)) KB m ⟨[].toArray⟩ 0):=HB1.out.setCell_same 1 (.string ByteArray.empty)
    have hG2:=(World.grownBy.refl w1 (some rb)).setCell 1 (.string ByteArray.empty)
    have HL2:=hide (And.intro hB2 (And.intro (HS1.out.keep hG2 hrb hrg) (HC1.out.grew hG2 (.inl (.inl rfl)))))
    clear hc HOP hOT hB2 hG2 HS1 HC1 HB1
    go_wp2
    refine wp_letterW (fun w'=>Blk w' rb 185 (rmV b ByteArray.empty (decide (c=1)) KB m ⟨[].toArray⟩ 0)∧SrcRep b g y w'∧Chg (fun x=>x=rb∨x=b) w w') HL2.out ?_
    clear c1 c3 c4 c5 c6 fz HL2
    rintro wq ⟨hBq,hSq,hCq⟩
    have c3:=hBq.cell (i:=3) rfl
    have c4:=hBq.cell (i:=4) rfl
    have hrl:=hBq.lt
    have HBQ:=hide hBq
    have HSQ:=hide hSq
    have HCQ:=hide hCq
    clear hBq hSq hCq
    go_region_held3 (fun w'=>w'.cell? ⟨rb,3,none⟩=some (.string KB)∧w'.cell? ⟨rb,4,none⟩=some (.int .i64 (m:Nat))) (refine ⟨?_,?_⟩ <;> first | assumption | (exact (hb5.cell hrl).trans (by assumption))) ((go_at_call 148;refine (HO1.out _).mono ?_;rintro e w5 ⟨rfl,hb5⟩))
    rename_i hH
    clear hH c3 c4
    have hb6:Below wq.heap.size wq w5:=(show Below wq.heap.size wq wq.drew from ⟨rfl,rfl,rfl,Nat.le_refl _,fun _ _=>rfl⟩).trans hb5
    have hB5:=HBQ.out.below hb6 hrl
    have HS5:=hide (HSQ.out.after hb6)
    have HC5:=hide (HCQ.out.trans (Chg.of_below hb6))
    have c4:=hB5.cell (i:=4) rfl
    have c5:=hB5.cell (i:=5) rfl
    have c6:=hB5.cell (i:=6) rfl
    have fz:=hB5.frozen
    have HB5:=hide hB5
    obtain ⟨m1,hm1⟩:∃ m1:Nat,m+1=m1:=⟨_,rfl⟩
    have tm:(m:Int)+1=(m1:Int):=by omega
    have hm1b:m1≤1125899906842624:=by omega
    clear hb5 hb6 hB5 HBQ HSQ HCQ HO1 hm1
    by_cases hoe:oe=0
    ·subst hoe
     clear hoc
     go_wp2
     first | refine bodyPost_ret (res_none Tryz.results154 _ _ _) rfl ?_ | refine bodyPost_end (res_none Tryz.results154 _ _ _) rfl ?_
     rw[←hPP]
     obtain ⟨t1,t2⟩:=HOE.out
     replace t2:(r.opn y c).e=13:=by first | (rw[if_pos rfl] at t2;exact t2) | (rw[if_pos trivial] at t2;exact t2)
     have hG6:=((((World.grownBy.refl w5 (some rb)).setCell 4 (.int .i64 (m1:Nat))).setCell 5 (.string OT)).setCell 6 (.int .i64 0)).setCell 6 (.int .i64 13)
     refine ⟨⟨_,rfl⟩,y,c,HA.out,⟨ByteArray.empty,decide (c=1),KB,m1,?_,fun h=>absurd (t2.symm.trans h) (by decide)⟩,HS5.out.keep hG6 hrb hrg,HC5.out.grew hG6 (.inl (.inl rfl))⟩
     rw[t1,t2,HOT.out]
     exact (((HB5.out.setCell_same 4 (.int .i64 (m1:Nat))).setCell_same 5 (.string OT)).setCell_same 6 (.int .i64 0)).setCell_same 6 (.int .i64 13)
    ·have z1:(oe==0)=false:=beq_eq_false_iff_ne.2 hoe
     have HH:=hide hoe
     clear hoc hoe
     go_wp2
     first | refine bodyPost_ret (res_none Tryz.results154 _ _ _) rfl ?_ | refine bodyPost_end (res_none Tryz.results154 _ _ _) rfl ?_
     rw[←hPP]
     obtain ⟨t1,t2⟩:=HOE.out
     rw[if_neg HH.out] at t2
     have hG6:=(((World.grownBy.refl w5 (some rb)).setCell 4 (.int .i64 (m1:Nat))).setCell 5 (.string OT)).setCell 6 (.int .i64 oe)
     refine ⟨⟨_,rfl⟩,y,c,HA.out,⟨ByteArray.empty,decide (c=1),KB,m1,?_,fun h=>absurd (t2.symm.trans h) HH.out⟩,HS5.out.keep hG6 hrb hrg,HC5.out.grew hG6 (.inl (.inl rfl))⟩
     rw[t1,t2,HOT.out]
     exact ((HB5.out.setCell_same 4 (.int .i64 (m1:Nat))).setCell_same 5 (.string OT)).setCell_same 6 (.int .i64 oe)
   ·obtain rfl:N=33:=by omega
    have hGz:(G.extract 0 32).size=32:=by rw[ByteArray.size_extract];omega
    have HOE:=hide (Rd.opn_mid (r:=r) (y:=y) hc (by rw[HN.out];decide) HGL.out)
    have HO1:=hide (fun w'=>HOP.out false (G.extract 0 32) w' (by omega))
    rw[HM.out,←ext_take] at HOE
    have HAH:=hide (show (⟨(G.data.toList.drop 32).toArray⟩:ByteArray)=G.extract 32 33 from ba_ext (by rw[sub_list,two_toList,List.take_of_length_le (by rw[List.length_drop,ba_len];omega)]))
    have hoc:=Ref.opnC_num r.key m false (G.extract 0 32).data.toList
    generalize Ref.opnC r.key m false (G.extract 0 32).data.toList=oo at *
    obtain ⟨ot,oe⟩:=oo
    simp only at HO1 HOE hoc
    generalize hOT:(⟨ot.toArray⟩:ByteArray)=OT at *
    have HOT:=hide hOT
    have hB2:Blk (w1.setCell ⟨rb,1,none⟩ (.string (G.extract 32 33))) rb 185 (rmV b (G.extract 32 33) (decide (c=1)) KB m ⟨[].toArray⟩ 0):=HB1.out.setCell_same 1 (.string (G.extract 32 33))
    have hG2:=(World.grownBy.refl w1 (some rb)).setCell 1 (.string (G.extract 32 33))
    have HL2:=hide (And.intro hB2 (And.intro (HS1.out.keep hG2 hrb hrg) (HC1.out.grew hG2 (.inl (.inl rfl)))))
    have HFI:=hide (show decide (c=1)=false from decide_eq_false (fun q=>by have:=HOV.out q;omega))
    clear hc HOP hOT hB2 hG2 HS1 HC1 HB1
    go_wp2
    refine wp_letterW (fun w'=>Blk w' rb 185 (rmV b (G.extract 32 33) (decide (c=1)) KB m ⟨[].toArray⟩ 0)∧SrcRep b g y w'∧Chg (fun x=>x=rb∨x=b) w w') HL2.out ?_
    clear c1 c3 c4 c5 c6 fz HL2
    rintro wq ⟨hBq,hSq,hCq⟩
    have c3:=hBq.cell (i:=3) rfl
    have c4:=hBq.cell (i:=4) rfl
    have hrl:=hBq.lt
    have HBQ:=hide hBq
    have HSQ:=hide hSq
    have HCQ:=hide hCq
    clear hBq hSq hCq
    go_region_held3 (fun w'=>w'.cell? ⟨rb,3,none⟩=some (.string KB)∧w'.cell? ⟨rb,4,none⟩=some (.int .i64 (m:Nat))) (refine ⟨?_,?_⟩ <;> first | assumption | (exact (hb5.cell hrl).trans (by assumption))) ((go_at_call 148;refine (HO1.out _).mono ?_;rintro e w5 ⟨rfl,hb5⟩))
    rename_i hH
    clear hH c3 c4
    have hb6:Below wq.heap.size wq w5:=(show Below wq.heap.size wq wq.drew from ⟨rfl,rfl,rfl,Nat.le_refl _,fun _ _=>rfl⟩).trans hb5
    have hB5:=HBQ.out.below hb6 hrl
    have HS5:=hide (HSQ.out.after hb6)
    have HC5:=hide (HCQ.out.trans (Chg.of_below hb6))
    have c4:=hB5.cell (i:=4) rfl
    have c5:=hB5.cell (i:=5) rfl
    have c6:=hB5.cell (i:=6) rfl
    have fz:=hB5.frozen
    have HB5:=hide hB5
    obtain ⟨m1,hm1⟩:∃ m1:Nat,m+1=m1:=⟨_,rfl⟩
    have tm:(m:Int)+1=(m1:Int):=by omega
    have hm1b:m1≤1125899906842624:=by omega
    clear hb5 hb6 hB5 HBQ HSQ HCQ HO1
    have HM1:=hide hm1
    clear hm1
    by_cases hoe:oe=0
    ·subst hoe
     clear hoc
     go_wp2
     first | refine bodyPost_ret (res_none Tryz.results154 _ _ _) rfl ?_ | refine bodyPost_end (res_none Tryz.results154 _ _ _) rfl ?_
     rw[←hPP]
     obtain ⟨t1,t2,t3⟩:=HOE.out
     obtain ⟨t4,t5,t6⟩:=t3 (by first | rfl | trivial)
     have hG6:=(((World.grownBy.refl w5 (some rb)).setCell 4 (.int .i64 (m1:Nat))).setCell 5 (.string OT)).setCell 6 (.int .i64 0)
     refine ⟨⟨_,rfl⟩,y,c,HA.out,⟨G.extract 32 33,decide (c=1),KB,m1,?_,fun _=>⟨by rw[t4];exact HAH.out.symm,HFI.out,by rw[t5];exact HKB.out.symm,by rw[t6,HM1.out]⟩⟩,HS5.out.keep hG6 hrb hrg,HC5.out.grew hG6 (.inl (.inl rfl))⟩
     rw[t1,t2,HOT.out]
     exact ((HB5.out.setCell_same 4 (.int .i64 (m1:Nat))).setCell_same 5 (.string OT)).setCell_same 6 (.int .i64 0)
    ·have z1:(oe==0)=false:=beq_eq_false_iff_ne.2 hoe
     have HH:=hide hoe
     clear hoc hoe
     go_wp2
     first | refine bodyPost_ret (res_none Tryz.results154 _ _ _) rfl ?_ | refine bodyPost_end (res_none Tryz.results154 _ _ _) rfl ?_
     rw[←hPP]
     obtain ⟨t1,t2,_⟩:=HOE.out
     have hG6:=(((World.grownBy.refl w5 (some rb)).setCell 4 (.int .i64 (m1:Nat))).setCell 5 (.string OT)).setCell 6 (.int .i64 oe)
     refine ⟨⟨_,rfl⟩,y,c,HA.out,⟨G.extract 32 33,decide (c=1),KB,m1,?_,fun h=>absurd (t2.symm.trans h) HH.out⟩,HS5.out.keep hG6 hrb hrg,HC5.out.grew hG6 (.inl (.inl rfl))⟩
     rw[t1,t2,HOT.out]
     exact ((HB5.out.setCell_same 4 (.int .i64 (m1:Nat))).setCell_same 5 (.string OT)).setCell_same 6 (.int .i64 oe)
def ReadM (rb b g:Nat) (r:Ref.Rd) (n:Nat) (w:World) (e:Ending) (w':World):Prop:=∃ r1,Ref.Rd.Fill r r1∧e = .returned (.tuple #[.string ⟨(r1.ans n).1.toArray⟩,.int .i64 (r1.ans n).2])∧RmRep rb b (r1.tell n) w'∧SrcRep b g r1.x w'∧Chg (fun x=>x=rb∨x=b) w w'
theorem readM_end {rb b g:Nat} {r r1:Ref.Rd} {n:Nat} {w w1:World} (hf:Ref.Rd.Fill r r1) {come key:ByteArray} {fin:Bool} {m:Nat} (hB:Blk w1 rb 185 (rmV b come fin key m ⟨r1.text.toArray⟩ r1.e)) (hq:r1.e=0→come=⟨r1.ahead.toArray⟩∧fin=false∧key=⟨r1.key.toArray⟩∧m=r1.n) (hS:SrcRep b g r1.x w1) (hC:Chg (fun x=>x=rb∨x=b) w w1) (hrb:rb≠b) (hrg:rb≠g) (ht:r1.text≠[]) {tk td:ByteArray} (htk:tk.data.toList=r1.text.take n) (htd:td.data.toList=r1.text.drop n):
  ReadM rb b g r n w (.returned (.tuple #[.string tk,.int .i64 0])) (w1.setCell ⟨rb,5,none⟩ (.string td)):=by
 have e1:tk=⟨(r1.text.take n).toArray⟩:=ba_ext htk
 have e2:td=⟨(r1.text.drop n).toArray⟩:=ba_ext htd
 subst e1
 subst e2
 have hG:=((World.grownBy.refl w1 (some rb)).setCell 5 (.string ⟨(r1.text.drop n).toArray⟩))
 have ha:r1.ans n=(r1.text.take n,0):=if_neg ht
 exact ⟨r1,hf,by rw[ha],⟨come,fin,key,m,hB.setCell_same 5 _,hq⟩,hS.keep hG hrb hrg,hC.grew hG (.inl (.inl rfl))⟩
theorem readM_none {rb b g:Nat} {r r1:Ref.Rd} {n:Nat} {w w1:World} (hf:Ref.Rd.Fill r r1) {come key:ByteArray} {fin:Bool} {m:Nat} (hB:Blk w1 rb 185 (rmV b come fin key m ⟨r1.text.toArray⟩ r1.e)) (hq:r1.e=0→come=⟨r1.ahead.toArray⟩∧fin=false∧key=⟨r1.key.toArray⟩∧m=r1.n) (hS:SrcRep b g r1.x w1) (hC:Chg (fun x=>x=rb∨x=b) w w1) (ht:r1.text=[]) (k:Nat):
  ReadM rb b g r n w (.returned (.tuple #[.string ⟨#[]⟩,.int .i64 r1.e])) (w1.drewN k):=by
 have ha:r1.ans n=([],r1.e):=if_pos ht
 exact ⟨r1,hf,by rw[ha],by rw[Rd.tell_nil ht];exact ⟨come,fin,key,m,hB,hq⟩,⟨hS.hb,hS.hg,hS.sz,hS.at_,hS.pl,hS.st⟩,⟨hC.os,hC.tape,hC.output,hC.size,hC.block⟩⟩
set_option maxRecDepth 100000 in
set_option maxHeartbeats 6400000 in
theorem refRead_any (rb b g:Nat) (r:Ref.Rd) (n:Nat) (w:World) (hR:RmRep rb b r w) (hS:SrcRep b g r.x w) (hrb:rb≠b) (hrg:rb≠g) (hok:r.e=0→r.key.length=32∧r.ahead.length≤1) (htx0:r.text.length≤1000) (hopn:r.e=0→∀ y c,Src.Ask r.x (33-r.ahead.length) y c→(r.opn y c).text.length≤1000) (hn:r.n<1125899906842624) (h0:0<n) (hn2:n≤9223372036854775807):
  Calls Tryz.prog 85 #[.pointer (some ⟨rb,0,none⟩),.int .i64 (n:Nat)] w (ReadM rb b g r n w):=by
 have j0:¬ (n:Int)<0:=by omega
 have z0:((n:Int)==0)=false:=beq_eq_false_iff_ne.2 (by omega)
 generalize hPP:ReadM rb b g r n w=PP
 by_cases hA:r.text=[]∧r.e=0
 ·obtain ⟨ht,he⟩:=hA
  have HON:=hide (refOpen_any rb b g r w hR hS hrb hrg he ht (hok he).1 (hok he).2 hn)
  obtain ⟨come,fin,key,m,hB,_⟩:=hR
  rw[ht,he] at hB
  have c5:=hB.cell (i:=5) rfl
  have c6:=hB.cell (i:=6) rfl
  have HT0:=hide ht
  have HE0:=hide he
  clear hB hS hok ht he hn h0
  go_enter Tryz.func85,Tryz.ntmps85
  go_wp2_with fail
  refine HON.out.mono ?_
  rintro e w1 ⟨⟨v,rfl⟩,y,c,hK,⟨come1,fin1,key1,m1,hB1,hq1⟩,hS1,hC1⟩
  have HF:=hide (Ref.Rd.Fill.opn r y c HT0.out HE0.out hK)
  have HTX:=hide (hopn HE0.out y c hK)
  have HS:=hide (show SrcRep b g (r.opn y c).x w1 by rw[Ref.Rd.opn_x];exact hS1)
  generalize r.opn y c=r1 at *
  clear c5 c6 hK hS1 HON hopn
  have c5:=hB1.cell (i:=5) rfl
  have c6:=hB1.cell (i:=6) rfl
  have fz:=hB1.frozen
  have HB:=hide hB1
  have HQ:=hide hq1
  have HC:=hide hC1
  clear hB1 hq1 hC1 htx0
  by_cases htx:r1.text=[]
  ·rw[htx] at c5
   have HT:=hide htx
   clear htx
   go_wp2
   go_quiet (fail)
   go_wp2
   rw[←hPP]
   exact readM_none HF.out HB.out HQ.out HS.out HC.out HT.out _
  ·have zt:((⟨r1.text.toArray⟩:ByteArray).toList==[])=false:=str_neL (fun e=>htx (by rw[two_toList] at e;exact e))
   have hTs:(⟨r1.text.toArray⟩:ByteArray).size=r1.text.length:=two_size _
   have HT:=hide htx
   have HTS:=hide hTs
   obtain ⟨L,hL⟩:∃ L:Nat,r1.text.length=L:=⟨_,rfl⟩
   rw[hL] at hTs
   have HLL:=hide hL
   have HEX:=hide (fun i j=>show ((⟨r1.text.toArray⟩:ByteArray).extract i j).data.toList=(r1.text.drop i).take (j-i) by rw[sub_list,two_toList])
   generalize hTT:(⟨r1.text.toArray⟩:ByteArray)=TT at *
   have HTT:=hide hTT
   have hLb:L≤1000:=by rw[←hL];exact HTX.out
   clear htx hTT hL
   by_cases hnL:L<n
   ·have jn:(L:Int)<(n:Int):=by omega
    have HNL:=hide hnL
    clear hnL
    go_wp2
    rw[←hPP]
    have hb:=HB.out
    rw[←HTT.out] at hb
    exact readM_end HF.out hb HQ.out HS.out HC.out hrb hrg HT.out (by rw[HEX.out,List.drop_zero,List.take_of_length_le (by rw[HLL.out];omega),List.take_of_length_le (by rw[HLL.out];exact Nat.le_of_lt HNL.out)]) (by rw[List.drop_eq_nil_of_le (by rw[HLL.out];exact Nat.le_of_lt HNL.out)];rfl)
   ·have jn:¬ (L:Int)<(n:Int):=by omega
    have jn2:(n:Int)≤(L:Int):=by omega
    have HNL:=hide hnL
    clear hnL
    go_wp2
    rw[←hPP]
    have hb:=HB.out
    rw[←HTT.out] at hb
    exact readM_end HF.out hb HQ.out HS.out HC.out hrb hrg HT.out (by rw[HEX.out,List.drop_zero,Nat.sub_zero]) (by rw[HEX.out,List.take_of_length_le (by rw[List.length_drop,HLL.out];exact Nat.le_refl _)])
 ·have HF:=hide (Ref.Rd.Fill.stay r hA)
  obtain ⟨come,fin,key,m,hB,hq⟩:=hR
  have c5:=hB.cell (i:=5) rfl
  have c6:=hB.cell (i:=6) rfl
  have fz:=hB.frozen
  have HB:=hide hB
  have HQ:=hide hq
  have HC:=hide (Chg.refl (fun x=>x=rb∨x=b) w)
  have HS:=hide hS
  have HTX:=hide htx0
  have HE:=hide (fun (q:r.text=[])=>show (r.e==0)=false from beq_eq_false_iff_ne.2 (fun z=>hA ⟨q,z⟩))
  clear hB hq hS hopn hok hA htx0
  go_enter Tryz.func85,Tryz.ntmps85
  by_cases htx:r.text=[]
  ·have ze:=HE.out htx
   rw[htx] at c5
   have HT:=hide htx
   clear htx
   go_wp2
   go_quiet (fail)
   go_wp2
   rw[←hPP]
   exact readM_none HF.out HB.out HQ.out HS.out HC.out HT.out _
  ·have zt:((⟨r.text.toArray⟩:ByteArray).toList==[])=false:=str_neL (fun e=>htx (by rw[two_toList] at e;exact e))
   have hTs:(⟨r.text.toArray⟩:ByteArray).size=r.text.length:=two_size _
   have HT:=hide htx
   have HTS:=hide hTs
   obtain ⟨L,hL⟩:∃ L:Nat,r.text.length=L:=⟨_,rfl⟩
   rw[hL] at hTs
   have HLL:=hide hL
   have HEX:=hide (fun i j=>show ((⟨r.text.toArray⟩:ByteArray).extract i j).data.toList=(r.text.drop i).take (j-i) by rw[sub_list,two_toList])
   generalize hTT:(⟨r.text.toArray⟩:ByteArray)=TT at *
   have HTT:=hide hTT
   have hLb:L≤1000:=by rw[←hL];exact HTX.out
   clear htx hTT hL
   by_cases hnL:L<n
   ·have jn:(L:Int)<(n:Int):=by omega
    have HNL:=hide hnL
    clear hnL
    go_wp2
    rw[←hPP]
    have hb:=HB.out
    rw[←HTT.out] at hb
    exact readM_end HF.out hb HQ.out HS.out HC.out hrb hrg HT.out (by rw[HEX.out,List.drop_zero,List.take_of_length_le (by rw[HLL.out];omega),List.take_of_length_le (by rw[HLL.out];exact Nat.le_of_lt HNL.out)]) (by rw[List.drop_eq_nil_of_le (by rw[HLL.out];exact Nat.le_of_lt HNL.out)];rfl)
   ·have jn:¬ (L:Int)<(n:Int):=by omega
    have jn2:(n:Int)≤(L:Int):=by omega
    have HNL:=hide hnL
    clear hnL
    go_wp2
    rw[←hPP]
    have hb:=HB.out
    rw[←HTT.out] at hb
    exact readM_end HF.out hb HQ.out HS.out HC.out hrb hrg HT.out (by rw[HEX.out,List.drop_zero,Nat.sub_zero]) (by rw[HEX.out,List.take_of_length_le (by rw[List.length_drop,HLL.out];exact Nat.le_refl _)])
theorem Inv.urd {T T':Tags} {base B M M':Nat} {σ:Sig} {w w':World} (h:Inv T base B M σ w) (hM:M≤M') (v':Value) (so':List SourceR) (rd':List RdR)
  (hs:Stays T T' w w' (fun c=>c=(1,0)∨c=(2,4)∨c.1=26∨c.1=28∨c.1=38∨c.1=39))
  (hw:At T' w' (1,0) B 44 ({ σ with vrd:=v',so:=so',rd:=rd' }:Sig).cells)
  (nrso:RowT T' w' (2,2) 100 2 σ.vso so'.length (so'.flatMap fun p=>ptrs p.bx p.bm))
  (nso:∀ i p,so'[i]? = some p→(At T' w' (26,i) p.bx 175 (p.cells p.gx)∧At T' w' (27,i) p.gx 3 (intV p.plan))∧At T' w' (28,i) p.bm 175 (p.cells p.gm)∧At T' w' (29,i) p.gm 3 (intV p.plan))
  (nsoK:∀ (i:Nat) (p:SourceR),so'[i]? = some p→SoK M' p)
  (nrrd:RowT T' w' (2,4) 109 2 v' rd'.length (rd'.flatMap fun p=>ptrs p.bx p.bm))
  (nrd:∀ i p,rd'[i]? = some p→At T' w' (38,i) p.bx 183 p.xV∧At T' w' (39,i) p.bm 185 p.mV∧RdK M' p∧∃ s:SourceR,so'[p.k]? = some s∧s.bx=p.sx∧s.bm=p.sm)
  (nnrd:rd'.length≤M')
  (hbd:M'≤1073741824∧({ σ with vrd:=v',so:=so',rd:=rd' }:Sig).sp.length≤M'∧({ σ with vrd:=v',so:=so',rd:=rd' }:Sig).si.length≤M'∧({ σ with vrd:=v',so:=so',rd:=rd' }:Sig).so.length≤M'∧({ σ with vrd:=v',so:=so',rd:=rd' }:Sig).ha.length≤M'∧({ σ with vrd:=v',so:=so',rd:=rd' }:Sig).wo.length≤M'∧({ σ with vrd:=v',so:=so',rd:=rd' }:Sig).re.length≤M'∧({ σ with vrd:=v',so:=so',rd:=rd' }:Sig).ls.length≤M'∧({ σ with vrd:=v',so:=so',rd:=rd' }:Sig).ma.length≤M'∧({ σ with vrd:=v',so:=so',rd:=rd' }:Sig).st.length≤M'∧({ σ with vrd:=v',so:=so',rd:=rd' }:Sig).ta.length≤M')
  (hsz:(∀ x ∈ ({ σ with vrd:=v',so:=so',rd:=rd' }:Sig).wo,x.size≤512*M'+65536)∧(∀ x ∈ ({ σ with vrd:=v',so:=so',rd:=rd' }:Sig).re,x.size≤512*M'+65536)∧(∀ p ∈ ({ σ with vrd:=v',so:=so',rd:=rd' }:Sig).ls,p.l.length≤M'∧∀ x ∈ p.l,x.size≤512*M'+65536)∧({ σ with vrd:=v',so:=so',rd:=rd' }:Sig).file.size≤512*M'+65536∧({ σ with vrd:=v',so:=so',rd:=rd' }:Sig).key.size≤512*M'+65536∧({ σ with vrd:=v',so:=so',rd:=rd' }:Sig).nonce.size≤512*M'+65536):
  Inv T' base B M' { σ with vrd:=v',so:=so',rd:=rd' } w' where
 hw:=hw
 rsp:=h.rsp.stays hs (by simp)
 rsi:=h.rsi.stays hs (by simp)
 rso:=nrso
 rwr:=h.rwr.stays hs (by simp)
 rrd:=nrrd
 rpl:=h.rpl.stays hs (by simp)
 rha:=h.rha.stays hs (by simp)
 rma:=h.rma.stays hs (by simp)
 rst:=h.rst.stays hs (by simp)
 rta:=h.rta.stays hs (by simp)
 rwo:=h.rwo.stays hs (by simp)
 rre:=h.rre.stays hs (by simp)
 rls:=h.rls.stays hs (by simp)
 rlw:=h.rlw.stays hs (by simp)
 sp:=fun i p hp=>⟨(h.sp i p hp).1.stays hs (by simp),(h.sp i p hp).2.stays hs (by simp)⟩
 si:=fun i p hp=>⟨⟨(h.si i p hp).1.1.stays hs (by simp),(h.si i p hp).1.2.stays hs (by simp)⟩,(h.si i p hp).2.1.stays hs (by simp),(h.si i p hp).2.2.stays hs (by simp)⟩
 so:=nso
 pl:=fun i p hp=>⟨(h.pl i p hp).1.stays hs (by simp),(h.pl i p hp).2.1.stays hs (by simp),(h.pl i p hp).2.2.1,(h.pl i p hp).2.2.2.1,Nat.le_trans (h.pl i p hp).2.2.2.2 (by omega)⟩
 wr:=fun i p hp=>⟨(h.wr i p hp).1.stays hs (by simp),(h.wr i p hp).2.1.stays hs (by simp),(h.wr i p hp).2.2.1.more hM,(h.wr i p hp).2.2.2⟩
 rd:=nrd
 spK:=fun i p hp=>(h.spK i p hp).more hM
 siK:=fun i p hp=>(h.siK i p hp).more hM
 soK:=nsoK
 nwr:=Nat.le_trans h.nwr hM
 nrd:=nnrd
 ha:=fun i p hp=>⟨(h.ha i p hp).1.stays hs (h.ha i p hp).2.1 (by simp),(hs.tag _ (h.ha i p hp).1.lt).trans (h.ha i p hp).2.1,Nat.le_trans (h.ha i p hp).2.2 hM⟩
 ma:=fun i p hp=>⟨(h.ma i p hp).1.stays hs (h.ma i p hp).2.1 (by simp),(hs.tag _ (h.ma i p hp).1.lt).trans (h.ma i p hp).2.1,Nat.le_trans (h.ma i p hp).2.2.1 hM,Nat.le_trans (h.ma i p hp).2.2.2 (by omega)⟩
 st:=fun i p hp=>⟨(h.st i p hp).1.stays hs (by simp),(h.st i p hp).2.1,(h.st i p hp).2.2.1,(h.st i p hp).2.2.2.1,Nat.le_trans (h.st i p hp).2.2.2.2 hM⟩
 ta:=fun i p hp=>⟨(h.ta i p hp).1.stays hs (by simp),(h.ta i p hp).2.1,Nat.le_trans (h.ta i p hp).2.2 hM⟩
 ls:=fun i p hp=>⟨(h.ls i p hp).1.stays hs (by simp),(h.ls i p hp).2.stays hs (by simp)⟩
 npl:=Nat.le_trans h.npl hM
 old:=fun g hg=>(hs.tag g (Nat.lt_of_lt_of_le hg h.bsz)).trans (h.old g hg)
 two:=h.two
 bsz:=Nat.le_trans h.bsz hs.size
 kt:=h.kt.below (hs.below h.bsz h.old (by simp)) h.two
 ht:=h.ht.below (hs.below h.bsz h.old (by simp)) h.two
 bound:=hbd
 sizes:=hsz
def SourceR.src (s:SourceR):Src:=⟨s.text,s.plan,s.pos.toNat,s.step.toNat⟩
def SourceR.turn (s:SourceR) (y:Src):SourceR:={ s with pos:=(y.at_:Nat),step:=(y.step:Nat) }
theorem SoK.cells {M:Nat} {s:SourceR} (h:SoK M s) (g:Nat):s.cells g=s.src.cells g:=by
 unfold SourceR.cells Src.cells sourceCells SourceR.src
 simp only
 rw[Int.toNat_of_nonneg h.lo,Int.toNat_of_nonneg h.slo]
theorem turn_cells (s:SourceR) {y:Src} (h1:y.s=s.text) (h2:y.plan=s.plan) (g:Nat):(s.turn y).cells g=y.cells g:=by
 unfold SourceR.cells Src.cells sourceCells SourceR.turn
 simp only
 rw[h1,h2]
theorem SoK.rep {T:Tags} {base B M:Nat} {σ:Sig} {w:World} (h:Inv T base B M σ w) {k:Nat} {s:SourceR} (hs:σ.so[k]? = some s):SrcRep s.bx s.gx s.src w∧SrcRep s.bm s.gm s.src w:=by
 have K:=h.soK k s hs
 obtain ⟨⟨a,b⟩,c,d⟩:=h.so k s hs
 have hM:=h.bound.1
 have k1:=K.sz
 have k2:=K.hi
 have k3:=K.lo
 have k4:=K.shi
 have k5:=K.slo
 have k6:=K.pl
 refine ⟨⟨by rw[←K.cells];exact a.1,b.1,?_,?_,?_,?_⟩,⟨by rw[←K.cells];exact c.1,d.1,?_,?_,?_,?_⟩⟩
 all_goals (unfold SourceR.src;simp only;omega)
theorem turn_ok {M M':Nat} {s:SourceR} (h:SoK M s) (hM:M≤M') {y:Src} (h1:y.s=s.text) (h2:y.plan=s.plan) {b g:Nat} {w:World} (hr:SrcRep b g y w):SoK M' (s.turn y):=by
 have k1:=h.sz
 have k2:=hr.at_
 have k3:=hr.st
 have k4:=h.pl
 rw[h1] at k2
 rw[h2] at k3
 refine ⟨?_,?_,?_,?_,?_,?_⟩ <;> (unfold SourceR.turn;simp only;omega)
theorem Stays.of_chg {T:Tags} {w w':World} {S:Nat→Prop} {C:Nat × Nat→Prop} (c:Nat × Nat) (h:Chg S w w') (hS:∀ k,k<w.heap.size→S k→C (T k)):Stays T (fresh T w c) w w' C:=
 ⟨h.os,h.tape,h.output,h.size,fun g hg=>fresh_old T w c g hg,fun g hg hn=>h.block g hg (fun e=>hn (hS g hg e))⟩
theorem flat_same {α:Type} (f:α→List Value):∀ (l:List α) (i:Nat) (x y:α),l[i]? = some x→f y=f x→(l.set i y).flatMap f=l.flatMap f
 | [],i,x,y,h,_=>by simp at h
 | a::l,0,x,y,h,e=>by
  obtain rfl:a=x:=by simpa using h
  simp[e]
 | a::l,i+1,x,y,h,e=>by
  have ih:=flat_same f l i x y (by simpa using h) e
  simp[ih]
theorem Inv.soSet {T T':Tags} {base B M M':Nat} {σ:Sig} {w w':World} (h:Inv T base B M σ w) (hM:M≤M') {k:Nat} {s:SourceR} (hs:σ.so[k]? = some s) {y:Src} {C:Nat × Nat→Prop} (hst:Stays T T' w w' C) (hC:∀ i,(¬ C (27,i))∧(¬ C (29,i))∧(i≠k→¬ C (26,i)∧¬ C (28,i))) (hC2:¬ C (2,2)) (hx:SrcRep s.bx s.gx y w') (hm:SrcRep s.bm s.gm y w') (h1:y.s=s.text) (h2:y.plan=s.plan):
  RowT T' w' (2,2) 100 2 σ.vso (σ.so.set k (s.turn y)).length ((σ.so.set k (s.turn y)).flatMap fun p=>ptrs p.bx p.bm) ∧
  (∀ i p,(σ.so.set k (s.turn y))[i]? = some p→(At T' w' (26,i) p.bx 175 (p.cells p.gx)∧At T' w' (27,i) p.gx 3 (intV p.plan))∧At T' w' (28,i) p.bm 175 (p.cells p.gm)∧At T' w' (29,i) p.gm 3 (intV p.plan)) ∧
  (∀ (i:Nat) (p:SourceR),(σ.so.set k (s.turn y))[i]? = some p→SoK M' p) ∧
  (∀ (i:Nat) (p:SourceR),σ.so[i]? = some p→∃ q:SourceR,(σ.so.set k (s.turn y))[i]? = some q∧q.bx=p.bx∧q.bm=p.bm):=by
 have hkl:=(List.getElem?_eq_some_iff.1 hs).1
 refine ⟨?_,?_,?_,?_⟩
 ·rw[List.length_set,flat_same (fun p:SourceR=>ptrs p.bx p.bm) σ.so k s (s.turn y) hs rfl]
  exact h.rso.stays hst hC2
 ·intro i p hp
  by_cases hik:i=k
  ·subst hik
   rw[List.getElem?_set_self hkl] at hp
   obtain rfl:=Option.some.inj hp
   obtain ⟨⟨a,b⟩,c,d⟩:=h.so i s hs
   refine ⟨⟨⟨?_,(hst.tag _ a.1.lt).trans a.2⟩,b.stays hst (hC i).1⟩,⟨?_,(hst.tag _ c.1.lt).trans c.2⟩,d.stays hst (hC i).2.1⟩
   ·rw[turn_cells s h1 h2];exact hx.hb
   ·rw[turn_cells s h1 h2];exact hm.hb
  ·rw[List.getElem?_set_ne (fun e=>hik e.symm)] at hp
   obtain ⟨⟨a,b⟩,c,d⟩:=h.so i p hp
   exact ⟨⟨a.stays hst ((hC i).2.2 hik).1,b.stays hst (hC i).1⟩,c.stays hst ((hC i).2.2 hik).2,d.stays hst (hC i).2.1⟩
 ·intro i p hp
  by_cases hik:i=k
  ·subst hik
   rw[List.getElem?_set_self hkl] at hp
   obtain rfl:=Option.some.inj hp
   exact turn_ok (h.soK i s hs) hM h1 h2 hx
  ·rw[List.getElem?_set_ne (fun e=>hik e.symm)] at hp
   exact (h.soK i p hp).more hM
 ·intro i p hp
  by_cases hik:i=k
  ·subst hik
   obtain rfl:=Option.some.inj (hs.symm.trans hp)
   exact ⟨_,List.getElem?_set_self hkl,rfl,rfl⟩
  ·exact ⟨p,by rw[List.getElem?_set_ne (fun e=>hik e.symm)];exact hp,rfl,rfl⟩
theorem Inv.turnSo {T T':Tags} {base B M M':Nat} {σ:Sig} {w w':World} (h:Inv T base B M σ w) (hM:M≤M') (hM2:M'≤1073741824) {k:Nat} {s:SourceR} (hs:σ.so[k]? = some s) {y:Src} (hst:Stays T T' w w' (fun c=>c=(26,k)∨c=(28,k))) (hx:SrcRep s.bx s.gx y w') (hm:SrcRep s.bm s.gm y w') (h1:y.s=s.text) (h2:y.plan=s.plan):
  Inv T' base B M' { σ with so:=σ.so.set k (s.turn y) } w':=by
 obtain ⟨a1,a2,a3,a4⟩:=h.soSet (M':=M') hM hs hst (fun i=>⟨by simp,by simp,fun hi=>⟨by simp[hi],by simp[hi]⟩⟩) (by simp) hx hm h1 h2
 refine h.urd hM σ.vrd (σ.so.set k (s.turn y)) σ.rd (hst.mono (by intro c hc;rcases hc with rfl | rfl <;> simp)) (h.hw.stays hst (by simp)) a1 a2 a3 (h.rrd.stays hst (by simp)) ?_ (Nat.le_trans h.nrd hM) ?_ (sizes_more hM h.sizes)
 ·intro i p hp
  obtain ⟨b1,b2,b3,t,b4,b5,b6⟩:=h.rd i p hp
  obtain ⟨q,q1,q2,q3⟩:=a4 _ _ b4
  exact ⟨b1.stays hst (by simp),b2.stays hst (by simp),b3.more hM,q,q1,q2.trans b5,q3.trans b6⟩
 ·have:=h.bound;simp;omega
theorem Inv.turnRd {T T':Tags} {base B M M':Nat} {σ:Sig} {w w':World} (h:Inv T base B M σ w) (hM:M≤M') (hM2:M'≤1073741824) {j:Nat} {p:RdR} (hp:σ.rd[j]? = some p) {s:SourceR} (hs:σ.so[p.k]? = some s) {y:Src} (q:RdR) (hq1:q.bx=p.bx) (hq2:q.bm=p.bm) (hq3:q.k=p.k) (hq4:q.sx=s.bx) (hq5:q.sm=s.bm) (hK:RdK M' q) (hst:Stays T T' w w' (fun c=>c=(26,p.k)∨c=(28,p.k)∨c=(38,j)∨c=(39,j))) (hbx:Blk w' p.bx 183 q.xV) (hbm:Blk w' p.bm 185 q.mV) (hx:SrcRep s.bx s.gx y w') (hm:SrcRep s.bm s.gm y w') (h1:y.s=s.text) (h2:y.plan=s.plan):
  Inv T' base B M' { σ with so:=σ.so.set p.k (s.turn y),rd:=σ.rd.set j q } w':=by
 have hjl:=(List.getElem?_eq_some_iff.1 hp).1
 obtain ⟨a1,a2,a3,a4⟩:=h.soSet (M':=M') hM hs hst (fun i=>⟨by simp,by simp,fun hi=>⟨by simp[hi],by simp[hi]⟩⟩) (by simp) hx hm h1 h2
 refine h.urd hM σ.vrd (σ.so.set p.k (s.turn y)) (σ.rd.set j q) (hst.mono (by intro c hc;rcases hc with rfl | rfl | rfl | rfl <;> simp)) (h.hw.stays hst (by simp)) a1 a2 a3 ?_ ?_ ?_ ?_ (sizes_more hM h.sizes)
 ·rw[List.length_set,flat_same (fun p:RdR=>ptrs p.bx p.bm) σ.rd j p q hp (by simp only[hq1,hq2])]
  exact h.rrd.stays hst (by simp)
 ·intro i r hr
  by_cases hij:i=j
  ·subst hij
   rw[List.getElem?_set_self hjl] at hr
   obtain rfl:=Option.some.inj hr
   obtain ⟨b1,b2,b3,t,b4,b5,b6⟩:=h.rd i p hp
   obtain ⟨z,z1,z2,z3⟩:=a4 _ _ hs
   refine ⟨⟨by rw[hq1];exact hbx,by rw[hq1];exact (hst.tag _ b1.1.lt).trans b1.2⟩,⟨by rw[hq2];exact hbm,by rw[hq2];exact (hst.tag _ b2.1.lt).trans b2.2⟩,hK,z,by rw[hq3];exact z1,by rw[z2,hq4],by rw[z3,hq5]⟩
  ·rw[List.getElem?_set_ne (fun e=>hij e.symm)] at hr
   obtain ⟨b1,b2,b3,t,b4,b5,b6⟩:=h.rd i r hr
   obtain ⟨z,z1,z2,z3⟩:=a4 _ _ b4
   exact ⟨b1.stays hst (by simp[hij]),b2.stays hst (by simp[hij]),b3.more hM,z,z1,z2.trans b5,z3.trans b6⟩
 ·rw[List.length_set];exact Nat.le_trans h.nrd hM
 ·have:=h.bound;simp;omega
theorem Inv.addRd {T:Tags} {base B M M':Nat} {σ:Sig} {w w1:World} (h:Inv T base B M σ w) (hM:M<M') (hM2:M'≤1073741824) (x:RdR) (hx1:At T w (38,σ.rd.length) x.bx 183 x.xV) (hx2:At T w (39,σ.rd.length) x.bm 185 x.mV) (hK:RdK M' x) (hs:∃ s,σ.so[x.k]? = some s∧s.bx=x.sx∧s.bm=x.sm)
  (o:Obj) (v':Value) (hg:(w.alloc o).grownBy w1 σ.vrd.ownBlock) (hr:Row w1 0 109 2 v' (σ.rd.length+1) ((σ.rd.flatMap fun p=>ptrs p.bx p.bm)++ptrs x.bx x.bm)) (hat:v'.ownBlock=σ.vrd.ownBlock∨∃ g,v'.ownBlock=some g∧(w.alloc o).heap.size≤g):
  ∃ T',Inv T' base B M' { σ with vrd:=v',rd:=σ.rd++[x] } (w1.setCell ⟨B,4,none⟩ v')∧Below base w (w1.setCell ⟨B,4,none⟩ v'):=by
 obtain ⟨q1,q2,q3⟩:=append_field (f:=4) h.hw h.rrd (by decide) hg hr hat
 refine ⟨fresh T w (2,4),h.urd (Nat.le_of_lt hM) v' σ.so (σ.rd++[x]) (q1.mono (by intro c hc;rcases hc with h | h <;> simp[h])) q2 (h.rso.stays q1 (by simp)) (fun i p hp=>⟨⟨(h.so i p hp).1.1.stays q1 (by simp),(h.so i p hp).1.2.stays q1 (by simp)⟩,(h.so i p hp).2.1.stays q1 (by simp),(h.so i p hp).2.2.stays q1 (by simp)⟩) (fun i p hp=>(h.soK i p hp).more (Nat.le_of_lt hM)) ?_ ?_ ?_ ?_ ?_,q1.below h.bsz h.old (by simp)⟩
 ·have:((σ.rd++[x]).flatMap fun p=>ptrs p.bx p.bm)=(σ.rd.flatMap fun p=>ptrs p.bx p.bm)++ptrs x.bx x.bm:=by simp[List.flatMap_append]
  rw[this]
  simpa using q3
 ·intro i p hp
  by_cases hi:i<σ.rd.length
  ·rw[List.getElem?_append_left hi] at hp
   obtain ⟨a1,a2,a3,a4⟩:=h.rd i p hp
   exact ⟨a1.stays q1 (by simp),a2.stays q1 (by simp),a3.more (Nat.le_of_lt hM),a4⟩
  ·have hi2:i=σ.rd.length:=by
    have:=(List.getElem?_eq_some_iff.1 hp).1
    simp at this;omega
   subst hi2
   simp at hp
   subst hp
   exact ⟨hx1.stays q1 (by simp),hx2.stays q1 (by simp),hK,hs⟩
 ·have:=h.nrd;simp;omega
 ·have:=h.bound;simp;omega
 ·exact sizes_more (Nat.le_of_lt hM) h.sizes
theorem opn_text_len (r:Ref.Rd) (y:Src) (c:Nat):(r.opn y c).text.length≤1000:=by
 have hm:∀ last l,(Ref.opnC r.key r.n last l).1.length≤l.length:=fun last l=>by
  rcases Ref.opnC_cases r.key r.n last l with ⟨_,h,_⟩ | ⟨_,h⟩
  ·omega
  ·rw[h];exact Nat.zero_le _
 unfold Ref.Rd.opn
 split
 ·exact Nat.zero_le _
 ·split
  ·exact Nat.zero_le _
  ·split
   ·rename_i h32
    split
    ·exact Nat.zero_le _
    ·refine Nat.le_trans (hm _ _) ?_
     rw[List.length_append,ba_len,ByteArray.size_extract]
     omega
   ·split
    ·exact Nat.zero_le _
    ·refine Nat.le_trans (hm _ _) ?_
     rw[List.length_take]
     omega
theorem fill_facts {r r1:Ref.Rd} (h:Ref.Rd.Fill r r1) (hx:r.x.at_≤r.x.s.size):r1.n≤r.n+1∧r1.x.s=r.x.s∧r1.x.plan=r.x.plan:=by
 cases h using Ref.Rd.Fill.elim with
 | stay=>exact ⟨Nat.le_succ _,rfl,rfl⟩
 | opn y c ht he ha=>
  have L:=ha.left hx
  refine ⟨?_,by rw[Ref.Rd.opn_x];exact L.s,by rw[Ref.Rd.opn_x];exact L.plan⟩
  unfold Ref.Rd.opn
  split
  ·exact Nat.zero_le _
  ·split
   ·exact Nat.zero_le _
   ·split
    ·split <;> exact Nat.zero_le _
    ·split
     ·exact Nat.zero_le _
     ·exact Nat.le_refl _
set_option maxHeartbeats 400000 in
theorem readNo_any (rb:Nat) (n:Int) (w:World) (hn:n≤0):
  Calls Tryz.prog 84 #[.pointer (some ⟨rb,0,none⟩),.int .i64 n] w fun e w'=>e = .returned (.tuple #[.string ⟨#[]⟩,.int .i64 (if n<0 then 2 else 0)])∧w'=w:=by
 by_cases h:n<0
 ·rw[if_pos h]
  go_enter Tryz.func84,Tryz.ntmps84
  go_wp2
  refine bodyPost_ret (results_tmp2 rfl _ _ _) rfl ?_
  exact ⟨rfl,rfl⟩
 ·rw[if_neg h]
  obtain rfl:n=0:=by omega
  go_enter Tryz.func84,Tryz.ntmps84
  go_wp2
  refine bodyPost_ret (results_tmp2 rfl _ _ _) rfl ?_
  exact ⟨rfl,rfl⟩
set_option maxHeartbeats 400000 in
theorem refReadNo_any (rb:Nat) (n:Int) (w:World) (hn:n≤0):
  Calls Tryz.prog 85 #[.pointer (some ⟨rb,0,none⟩),.int .i64 n] w fun e w'=>e = .returned (.tuple #[.string ⟨#[]⟩,.int .i64 (if n<0 then 2 else 0)])∧w'=w:=by
 by_cases h:n<0
 ·rw[if_pos h]
  go_enter Tryz.func85,Tryz.ntmps85
  go_wp2
  refine bodyPost_ret (results_tmp2 rfl _ _ _) rfl ?_
  exact ⟨rfl,rfl⟩
 ·rw[if_neg h]
  obtain rfl:n=0:=by omega
  go_enter Tryz.func85,Tryz.ntmps85
  go_wp2
  refine bodyPost_ret (results_tmp2 rfl _ _ _) rfl ?_
  exact ⟨rfl,rfl⟩
def rdOf (p:RdR) (s:SourceR):Ref.Rd:=⟨s.src,p.key,p.n,p.ahead,p.text,p.e⟩
def RdR.with (p:RdR) (r:Ref.Rd) (come:ByteArray) (fin:Bool) (key:ByteArray) (n:Nat):RdR:=⟨p.bx,p.bm,p.k,p.sx,p.sm,r.key,r.n,r.ahead,r.text,r.e,come,fin,key,n⟩
theorem Chg.two {w w1 w2:World} {a b c d:Nat} (h1:Chg (fun x=>x=a∨x=b) w w1) (h2:Chg (fun x=>x=c∨x=d) w1 w2):Chg (fun x=>x=a∨x=b∨x=c∨x=d) w w2:=
 (h1.mono (fun k h=>by rcases h with h | h <;> simp[h])).trans (h2.mono (fun k h=>by rcases h with h | h <;> simp[h]))
theorem Inv.reads {T:Tags} {base B M:Nat} {σ:Sig} {w:World} (h:Inv T base B M σ w) {j:Nat} {p:RdR} (hp:σ.rd[j]? = some p):
  ∃ s,RdRep p.bx p.sx (rdOf p s) w∧SrcRep p.sx s.gx s.src w∧p.bx≠p.sx∧p.bx≠s.gx∧p.bm≠p.sm∧p.bm≠s.gm∧p.n≤M∧(p.e=0→p.key.length=32∧p.ahead.length≤1)∧p.text.length≤1000 ∧
   (∀ w2,Chg (fun x=>x=p.bx∨x=p.sx) w w2→RmRep p.bm p.sm (rdOf p s) w2∧SrcRep p.sm s.gm s.src w2) ∧
   (∀ M' r w2 w3,M≤M'→M'≤1073741824→RdRep p.bx p.sx r w2→SrcRep p.sx s.gx r.x w2→Chg (fun x=>x=p.bx∨x=p.sx) w w2→RmRep p.bm p.sm r w3→SrcRep p.sm s.gm r.x w3→Chg (fun x=>x=p.bm∨x=p.sm) w2 w3→r.x.s=s.src.s→r.x.plan=s.src.plan→r.n≤M'→Done base B M' w w3):=by
 obtain ⟨b1,b2,K,s,hs,hsx,hsm⟩:=h.rd j p hp
 obtain ⟨⟨a1,a2⟩,a3,a4⟩:=h.so p.k s hs
 obtain ⟨r1,r2⟩:=SoK.rep h hs
 have ne:∀ {x y:Nat} {c d:Nat × Nat},T x=c→T y=d→c≠d→x≠y:=fun h1 h2 hcd e=>hcd (by rw[←h1,←h2,e])
 rw[hsx] at r1 a1
 rw[hsm] at r2 a3
 have n1:p.bx≠p.sx:=ne b1.2 a1.2 (by simp)
 have n2:p.bx≠s.gx:=ne b1.2 a2.2 (by simp)
 have n3:p.bm≠p.sm:=ne b2.2 a3.2 (by simp)
 have n4:p.bm≠s.gm:=ne b2.2 a4.2 (by simp)
 have n5:p.bm≠p.bx:=ne b2.2 b1.2 (by simp)
 have n6:p.bm≠p.sx:=ne b2.2 a1.2 (by simp)
 have n7:p.sm≠p.bx:=ne a3.2 b1.2 (by simp)
 have n8:p.sm≠p.sx:=ne a3.2 a1.2 (by simp)
 have n9:s.gm≠p.bx:=ne a4.2 b1.2 (by simp)
 have n10:s.gm≠p.sx:=ne a4.2 a1.2 (by simp)
 have n11:s.gx≠p.bm:=ne a2.2 b2.2 (by simp)
 have n12:s.gx≠p.sm:=ne a2.2 a3.2 (by simp)
 refine ⟨s,⟨b1.1,fun he=>⟨(K.ok he).1,(K.ok he).2.1⟩,K.tx⟩,r1,n1,n2,n3,n4,K.n,fun he=>⟨(K.ok he).1,(K.ok he).2.1⟩,K.tx,?_,?_⟩
 ·intro w2 hC
  exact ⟨⟨p.come,p.fin,p.mkey,p.mn,hC.blk b2.1 (fun e=>e.elim n5 n6),fun he=>(K.ok he).2.2⟩,⟨hC.blk r2.hb (fun e=>e.elim n7 n8),hC.blk r2.hg (fun e=>e.elim n9 n10),r2.sz,r2.at_,r2.pl,r2.st⟩⟩
 ·intro M' r w2 w3 hM hM2 hR hS hC hRm hSm hC2 h1 h2 hn
  obtain ⟨come,fin,key,n,hB,hq⟩:=hRm
  have hst:Stays T (fresh T w (9,9)) w w3 (fun c=>c=(26,p.k)∨c=(28,p.k)∨c=(38,j)∨c=(39,j)):=Stays.of_chg (9,9) (hC.two hC2) (fun k _ e=>by
   rcases e with rfl | rfl | rfl | rfl
   ·simp[b1.2]
   ·simp[a1.2]
   ·simp[b2.2]
   ·simp[a3.2])
  have hx3:SrcRep s.bx s.gx r.x w3:=by rw[hsx];exact ⟨hC2.blk hS.hb (fun e=>e.elim (fun e=>n6 e.symm) (fun e=>n8 e.symm)),hC2.blk hS.hg (fun e=>e.elim n11 n12),hS.sz,hS.at_,hS.pl,hS.st⟩
  have hm3:SrcRep s.bm s.gm r.x w3:=by rw[hsm];exact hSm
  refine ⟨fresh T w (9,9),_,h.turnRd hM hM2 hp hs (p.with r come fin key n) rfl rfl rfl hsx.symm hsm.symm ⟨fun he=>⟨(hR.ok he).1,(hR.ok he).2,hq he⟩,hR.tx,hn⟩ hst (hC2.blk hR.hb (fun e=>e.elim (fun e=>n5 e.symm) (fun e=>n7 e.symm))) hB hx3 hm3 h1 h2,hst.below h.bsz h.old (by simp)⟩
theorem cell_lt {w:World} {b i:Nat} {v:Value} (h:w.cell? ⟨b,i,none⟩=some v):b<w.heap.size:=by
 rcases Nat.lt_or_ge b w.heap.size with q | q
 ·exact q
 ·simp[World.cell?,Array.getElem?_eq_none q] at h
end Go.Proofs.YtmjekklgefdolaaGreatDoor
