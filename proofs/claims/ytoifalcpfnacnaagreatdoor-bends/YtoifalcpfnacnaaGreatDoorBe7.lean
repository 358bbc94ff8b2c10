import Derived.Laws.ResultCell
import Derived.Laws.Rows
import Derived.Test.YtoifalcpfnacnaaGreatDoorBe6
namespace Go.Proofs.YtoifalcpfnacnaaGreatDoor
open Go.RowKit
namespace Hd
def ofL (l:List UInt8):ByteArray:=⟨l.toArray⟩
theorem ofL_list (l:List UInt8):(ofL l).data.toList=l:=rfl
theorem ofL_of (s:ByteArray):ofL s.data.toList=s:=ba_ext rfl
def fw (c:UInt8):List UInt8→List UInt8→List (List UInt8)
 | cur,[]=>[cur]
 | cur,x::r=>if x=c then cur::fw c [] r else fw c (cur++[x]) r
theorem cutS_fw (s:ByteArray) (c:UInt8):∀ k,k≤s.size→(cutS s c k).1++(fw c ((s.data.toList.take k).drop (cutS s c k).2) (s.data.toList.drop k)).map ofL=(fw c [] s.data.toList).map ofL
 | 0,_=>rfl
 | k+1,hk=>by
  have ih:=cutS_fw s c k (by omega)
  have hle:=(cutS_le s c k).2
  have hlt:k<s.data.toList.length:=by rw[ba_len];exact hk
  have hg:s.data.toList.getD k 0=s.data.toList[k]:=by rw[List.getD_eq_getElem?_getD,List.getElem?_eq_getElem hlt];rfl
  rw[List.drop_eq_getElem_cons hlt,fw] at ih
  rw[cutS,hg]
  by_cases hc:s.data.toList[k]=c
  ·rw[if_pos hc,List.map_cons] at ih
   rw[if_pos hc]
   show ((cutS s c k).1++[s.extract (cutS s c k).2 k])++_=_
   have e1:(List.take (k+1) s.data.toList).drop (k+1)=[]:=List.drop_eq_nil_of_le (by rw[List.length_take];omega)
   have e2:s.extract (cutS s c k).2 k=ofL ((s.data.toList.take k).drop (cutS s c k).2):=by
    apply ba_ext
    rw[sub_list,ofL_list,List.drop_take]
   show _++(fw c ((List.take (k+1) s.data.toList).drop (k+1)) _).map ofL=_
   rw[e1,e2,←ih,List.append_assoc]
   rfl
  ·rw[if_neg hc] at ih
   rw[if_neg hc,←ih,List.take_succ_eq_append_getElem hlt,List.drop_append_of_le_length (by rw[List.length_take];omega)]
theorem cut_fw (s:ByteArray) (c:UInt8):cut s c=(fw c [] s.data.toList).map ofL:=by
 have h:=cutS_fw s c s.size (Nat.le_refl _)
 have hd:s.data.toList.drop s.size=[]:=List.drop_eq_nil_of_le (by rw[ba_len];exact Nat.le_refl _)
 rw[hd,fw] at h
 rw[←h,cut]
 congr 1
 rw[List.map_cons,List.map_nil]
 congr 1
 apply ba_ext
 rw[sub_list,ofL_list,List.drop_take]
theorem fw_hit (c:UInt8) (r:List UInt8):∀ (a cur:List UInt8),c ∉ a→fw c cur (a++c::r)=(cur++a)::fw c [] r
 | [],cur,_=>by rw[List.nil_append,fw,if_pos rfl,List.append_nil]
 | x::a,cur,h=>by
  rw[List.cons_append,fw,if_neg (fun e=>h (by rw[e];exact List.mem_cons_self)),fw_hit c r a _ (fun e=>h (List.mem_cons_of_mem _ e)),List.append_assoc]
  rfl
theorem fw_end (c:UInt8):∀ (a cur:List UInt8),c ∉ a→fw c cur a=[cur++a]
 | [],cur,_=>by rw[fw,List.append_nil]
 | x::a,cur,h=>by
  rw[fw,if_neg (fun e=>h (by rw[e];exact List.mem_cons_self)),fw_end c a _ (fun e=>h (List.mem_cons_of_mem _ e)),List.append_assoc]
  rfl
theorem enc_no (l:List UInt8) (c:UInt8) (hc:¬ B64.place c<64):c ∉ B64.enc l:=fun h=>hc (B64.enc_letters l c h)
theorem no10 (l:List UInt8):(10:UInt8) ∉ B64.enc l:=enc_no l 10 (by decide)
theorem no32 (l:List UInt8):(32:UInt8) ∉ B64.enc l:=enc_no l 32 (by decide)
def eline (s b:List UInt8):List UInt8:=wrapB++B64.enc s++[32]++B64.enc b
def mline (m:List UInt8):List UInt8:=mark++[32]++B64.enc m
def line0:List UInt8:=[116,105,110,121,45,98,111,120,47,49]
theorem eline_no (s b:List UInt8):(10:UInt8) ∉ eline s b:=by
 unfold eline
 rw[List.mem_append,List.mem_append,List.mem_append]
 rintro (((h | h) | h) | h)
 ·exact absurd h (by decide)
 ·exact no10 _ h
 ·exact absurd h (by decide)
 ·exact no10 _ h
theorem mline_no (m:List UInt8):(10:UInt8) ∉ mline m:=by
 unfold mline
 rw[List.mem_append,List.mem_append]
 rintro ((h | h) | h)
 ·exact absurd h (by decide)
 ·exact absurd h (by decide)
 ·exact no10 _ h
theorem eline_cut (s b:List UInt8):cut (ofL (eline s b)) 32=[ofL [45,62],ofL [119,114,97,112],ofL (B64.enc s),ofL (B64.enc b)]:=by
 rw[cut_fw,ofL_list]
 have e:eline s b=[45,62]++32::([119,114,97,112]++32::(B64.enc s++32::B64.enc b)):=by
  unfold eline wrapB
  simp only[List.append_assoc,List.cons_append,List.nil_append]
 rw[e,fw_hit 32 _ [45,62] _ (by decide),fw_hit 32 _ [119,114,97,112] _ (by decide),fw_hit 32 _ _ _ (no32 s),fw_end 32 _ _ (no32 b)]
 simp only[List.nil_append,List.map_cons,List.map_nil]
theorem mline_cut (m:List UInt8):cut (ofL (mline m)) 32=[ofL [45,45,45],ofL (B64.enc m)]:=by
 rw[cut_fw,ofL_list]
 have e:mline m=[45,45,45]++32::B64.enc m:=by
  unfold mline mark
  simp only[List.cons_append,List.nil_append]
 rw[e,fw_hit 32 _ [45,45,45] _ (by decide),fw_end 32 _ _ (no32 m)]
 rfl
theorem byT_enc (x:ByteArray):byT (ofL (B64.enc x.data.toList))=x:=by
 unfold byT
 rw[ofL_list,B64.decAns_enc]
theorem stepL_e (st:St) (s b:ByteArray):stepL st (ofL (eline s.data.toList b.data.toList))=⟨st.ss++[s],st.bs++[b],st.mac⟩:=by
 unfold stepL
 rw[eline_cut,if_pos (by rfl)]
 show (⟨st.ss++[byT (ofL (B64.enc s.data.toList))],st.bs++[byT (ofL (B64.enc b.data.toList))],st.mac⟩:St)=_
 rw[byT_enc,byT_enc]
theorem stepL_m (st:St) (m:ByteArray):stepL st (ofL (mline m.data.toList))=⟨st.ss,st.bs,m⟩:=by
 unfold stepL
 rw[mline_cut,if_neg (by simp),if_pos (by rfl)]
 show (⟨st.ss,st.bs,byT (ofL (B64.enc m.data.toList))⟩:St)=_
 rw[byT_enc]
theorem text1 (a p m:ByteArray):text [a] [p] m=line0++10::(eline a.data.toList p.data.toList++10::(mline m.data.toList++10::[])):=by
 show (line1++entry a.data.toList p.data.toList++mark)++[32]++B64.enc m.data.toList++[10]=_
 unfold entry eline mline line1 line0
 simp only[List.append_assoc,List.cons_append,List.nil_append]
theorem text2 (a b p q m:ByteArray):text [a,b] [p,q] m=line0++10::(eline a.data.toList p.data.toList++10::(eline b.data.toList q.data.toList++10::(mline m.data.toList++10::[]))):=by
 show (line1++entry a.data.toList p.data.toList++entry b.data.toList q.data.toList++mark)++[32]++B64.enc m.data.toList++[10]=_
 unfold entry eline mline line1 line0
 simp only[List.append_assoc,List.cons_append,List.nil_append]
theorem text3 (a b c p q r m:ByteArray):text [a,b,c] [p,q,r] m=line0++10::(eline a.data.toList p.data.toList++10::(eline b.data.toList q.data.toList++10::(eline c.data.toList r.data.toList++10::(mline m.data.toList++10::[])))):=by
 show (line1++entry a.data.toList p.data.toList++entry b.data.toList q.data.toList++entry c.data.toList r.data.toList++mark)++[32]++B64.enc m.data.toList++[10]=_
 unfold entry eline mline line1 line0
 simp only[List.append_assoc,List.cons_append,List.nil_append]
theorem parsed_text (ss bs:List ByteArray) (m:ByteArray) (h0:ss.length≠0) (h3:¬ 3<ss.length) (hb:bs.length=ss.length):parsed (ofL (text ss bs m))=⟨ss,bs,m⟩:=by
 have d0:(10:UInt8) ∉ line0:=by decide
 match ss,bs,h0,h3,hb with
 | [a],[p],_,_,_=>
  have hc:cut (ofL (text [a] [p] m)) 10=[ofL line0,ofL (eline a.data.toList p.data.toList),ofL (mline m.data.toList),ofL []]:=by
   rw[cut_fw,ofL_list,text1,fw_hit 10 _ _ _ d0,fw_hit 10 _ _ _ (eline_no _ _),fw_hit 10 _ _ _ (mline_no _),fw]
   rfl
  unfold parsed
  rw[hc]
  show stepL (stepL nil (ofL (eline a.data.toList p.data.toList))) (ofL (mline m.data.toList))=_
  rw[stepL_e,stepL_m]
  rfl
 | [a,b],[p,q],_,_,_=>
  have hc:cut (ofL (text [a,b] [p,q] m)) 10=[ofL line0,ofL (eline a.data.toList p.data.toList),ofL (eline b.data.toList q.data.toList),ofL (mline m.data.toList),ofL []]:=by
   rw[cut_fw,ofL_list,text2,fw_hit 10 _ _ _ d0,fw_hit 10 _ _ _ (eline_no _ _),fw_hit 10 _ _ _ (eline_no _ _),fw_hit 10 _ _ _ (mline_no _),fw]
   rfl
  unfold parsed
  rw[hc]
  show stepL (stepL (stepL nil (ofL (eline a.data.toList p.data.toList))) (ofL (eline b.data.toList q.data.toList))) (ofL (mline m.data.toList))=_
  rw[stepL_e,stepL_e,stepL_m]
  rfl
 | [a,b,c],[p,q,r],_,_,_=>
  have hc:cut (ofL (text [a,b,c] [p,q,r] m)) 10=[ofL line0,ofL (eline a.data.toList p.data.toList),ofL (eline b.data.toList q.data.toList),ofL (eline c.data.toList r.data.toList),ofL (mline m.data.toList),ofL []]:=by
   rw[cut_fw,ofL_list,text3,fw_hit 10 _ _ _ d0,fw_hit 10 _ _ _ (eline_no _ _),fw_hit 10 _ _ _ (eline_no _ _),fw_hit 10 _ _ _ (eline_no _ _),fw_hit 10 _ _ _ (mline_no _),fw]
   rfl
  unfold parsed
  rw[hc]
  show stepL (stepL (stepL (stepL nil (ofL (eline a.data.toList p.data.toList))) (ofL (eline b.data.toList q.data.toList))) (ofL (eline c.data.toList r.data.toList))) (ofL (mline m.data.toList))=_
  rw[stepL_e,stepL_e,stepL_e,stepL_m]
  rfl
 | [],_,h,_,_=>exact absurd rfl h
 | _::_::_::_::_,_,_,h,_=>exact absurd (by simp) h
 | [_],[],_,_,h=>simp at h
 | [_],_::_::_,_,_,h=>simp at h
 | [_,_],[],_,_,h=>simp at h
 | [_,_],[_],_,_,h=>simp at h
 | [_,_],_::_::_::_,_,_,h=>simp at h
 | [_,_,_],[],_,_,h=>simp at h
 | [_,_,_],[_],_,_,h=>simp at h
 | [_,_,_],[_,_],_,_,h=>simp at h
 | [_,_,_],_::_::_::_::_,_,_,h=>simp at h
structure Ok (ss bs:List ByteArray) (m:ByteArray):Prop where
 n0:ss.length≠0
 n3:¬ 3<ss.length
 nb:bs.length=ss.length
 hs:∀ i,i<ss.length→(ss.getD i ⟨#[]⟩).size=16
 hb:∀ i,i<ss.length→(bs.getD i ⟨#[]⟩).size=32
 hm:m.size=32
theorem prAns_ok {ss bs:List ByteArray} {m:ByteArray} (h:Ok ss bs m):prAns ss bs m=(text ss bs m,0):=by
 unfold prAns
 rw[if_neg (by rintro (e | e | e);exact h.n0 e;exact h.n3 e;exact e h.nb),if_neg]
 rintro (⟨i,hi,e | e⟩ | e)
 ·exact e (h.hs i hi)
 ·exact e (h.hb i hi)
 ·exact e h.hm
theorem ok_of_prAns {ss bs:List ByteArray} {m:ByteArray} {t:List UInt8} (h:prAns ss bs m=(t,0)):Ok ss bs m∧text ss bs m=t:=by
 unfold prAns at h
 split at h
 ·injection h with _ h2;exact absurd h2 (by decide)
 ·rename_i h1
  split at h
  ·injection h with _ h2;exact absurd h2 (by decide)
  ·rename_i h2
   injection h with h3 _
   refine ⟨⟨fun e=>h1 (.inl e),fun e=>h1 (.inr (.inl e)),Decidable.byContradiction fun e=>h1 (.inr (.inr e)),fun i hi=>Decidable.byContradiction fun e=>h2 (.inl ⟨i,hi,.inl e⟩),fun i hi=>Decidable.byContradiction fun e=>h2 (.inl ⟨i,hi,.inr e⟩),Decidable.byContradiction fun e=>h2 (.inr e)⟩,h3⟩
theorem enc16 (s:List UInt8) (h:s.length=16):(B64.enc s).length=22:=by rw[B64.enc_length,h];rfl
theorem enc32 (s:List UInt8) (h:s.length=32):(B64.enc s).length=43:=by rw[B64.enc_length,h];rfl
theorem Ok.at_s {ss bs:List ByteArray} {m:ByteArray} (h:Ok ss bs m) (i:Nat) (hi:i<ss.length):(B64.enc (at_ ss i)).length=22:=enc16 _ (by unfold at_;rw[ba_len];exact h.hs i hi)
theorem Ok.at_b {ss bs:List ByteArray} {m:ByteArray} (h:Ok ss bs m) (i:Nat) (hi:i<ss.length):(B64.enc (at_ bs i)).length=43:=enc32 _ (by unfold at_;rw[ba_len];exact h.hb i hi)
theorem Ok.at_m {ss bs:List ByteArray} {m:ByteArray} (h:Ok ss bs m):(B64.enc m.data.toList).length=43:=enc32 _ (by rw[ba_len];exact h.hm)
theorem Ok.entry_len {ss bs:List ByteArray} {m:ByteArray} (h:Ok ss bs m) (i:Nat) (hi:i<ss.length):(entry (at_ ss i) (at_ bs i)).length=75:=by
 unfold entry wrapB
 simp only[List.length_append,List.length_cons,List.length_nil]
 rw[h.at_s i hi,h.at_b i hi]
theorem Ok.bodyP_len {ss bs:List ByteArray} {m:ByteArray} (h:Ok ss bs m):∀ k,k≤ss.length→(bodyP ss bs k).length=11+75*k
 | 0,_=>rfl
 | k+1,hk=>by rw[bodyP,List.length_append,h.bodyP_len k (by omega),h.entry_len k (by omega)];omega
theorem Ok.text_len {ss bs:List ByteArray} {m:ByteArray} (h:Ok ss bs m):(text ss bs m).length=59+75*ss.length:=by
 unfold text body mark
 simp only[List.length_append,List.length_cons,List.length_nil]
 rw[h.bodyP_len _ (Nat.le_refl _),h.at_m]
 omega
theorem parAns_text {ss bs:List ByteArray} {m:ByteArray} (h:Ok ss bs m):parAns (ofL (text ss bs m))=(⟨ss,bs,m⟩,0):=by
 have h1:=h.text_len
 have h2:=h.n3
 unfold parAns
 rw[if_neg (by show ¬ 284<(ofL _).size;unfold ofL;rw[ba_size];omega),parsed_text ss bs m h.n0 h.n3 h.nb]
 exact if_pos (prAns_ok h)
theorem parAns_cases (t:ByteArray):parAns t=(nil,6)∨∃ ss bs m,Ok ss bs m∧t=ofL (text ss bs m)∧parAns t=(⟨ss,bs,m⟩,0):=by
 by_cases h1:284<t.size
 ·exact .inl (by unfold parAns;rw[if_pos h1])
 ·by_cases h2:prAns (parsed t).ss (parsed t).bs (parsed t).mac=(t.data.toList,0)
  ·obtain ⟨hok,ht⟩:=ok_of_prAns h2
   refine .inr ⟨_,_,_,hok,?_,?_⟩
   ·rw[ht];exact (ofL_of t).symm
   ·unfold parAns;rw[if_neg h1,if_pos h2]
  ·exact .inl (by unfold parAns;rw[if_neg h1,if_neg h2])
theorem bodyP_drop {ss bs:List ByteArray} {m:ByteArray} (h:Ok ss bs m) (k:Nat):∀ j,k+j≤ss.length→∃ r,bodyP ss bs (k+j)=bodyP ss bs k++r∧(0<j→∃ r',r=entry (at_ ss k) (at_ bs k)++r')
 | 0,_=>⟨[],by rw[List.append_nil];rfl,fun h=>absurd h (by omega)⟩
 | j+1,hj=>by
  obtain ⟨r,h1,h2⟩:=bodyP_drop h k j (by omega)
  refine ⟨r++entry (at_ ss (k+j)) (at_ bs (k+j)),?_,fun _=>?_⟩
  ·rw[←Nat.add_assoc,bodyP,h1,List.append_assoc]
  ·rcases Nat.eq_zero_or_pos j with h0 | h0
   ·subst h0
    have h1':bodyP ss bs k=bodyP ss bs k++r:=h1
    have hr:r=[]:=List.self_eq_append_right.1 h1'
    exact ⟨[],by rw[hr,List.nil_append,List.append_nil];rfl⟩
   ·obtain ⟨r',h3⟩:=h2 h0
    exact ⟨r'++entry (at_ ss (k+j)) (at_ bs (k+j)),by rw[h3,List.append_assoc]⟩
theorem Ok.part (ss bs:List ByteArray) (m:ByteArray) (h:Ok ss bs m) (k:Nat) (hk:k<ss.length):∃ r,(text ss bs m).drop (11+75*k)=entry (at_ ss k) (at_ bs k)++r:=by
 obtain ⟨j,hj⟩:∃ j,ss.length=k+j:=⟨ss.length-k,by omega⟩
 obtain ⟨r,h1,h2⟩:=bodyP_drop h k j (by omega)
 obtain ⟨r',rfl⟩:=h2 (by omega)
 refine ⟨r'++mark++[32]++B64.enc m.data.toList++[10],?_⟩
 unfold text body
 rw[hj,h1]
 simp only[List.append_assoc]
 rw[List.drop_left' (h.bodyP_len k (by omega))]
theorem Ok.last (ss bs:List ByteArray) (m:ByteArray) (h:Ok ss bs m):(text ss bs m).drop (11+75*ss.length)=mark++[32]++B64.enc m.data.toList++[10]:=by
 unfold text body
 simp only[List.append_assoc]
 rw[List.drop_left' (h.bodyP_len _ (Nat.le_refl _))]
theorem drop_cat {a b:List UInt8} {n:Nat} (h:a.length=n):(a++b).drop n=b:=List.drop_left' h
theorem take_cat {a b:List UInt8} {n:Nat} (h:a.length=n):(a++b).take n=a:=List.take_left' h
theorem Ok.salt (ss bs:List ByteArray) (m:ByteArray) (h:Ok ss bs m) (k:Nat) (hk:k<ss.length):((text ss bs m).drop (11+75*k+8)).take 22=B64.enc (at_ ss k):=by
 obtain ⟨r,hr⟩:=h.part _ _ _ k hk
 rw[←List.drop_drop,hr]
 unfold entry
 simp only[List.append_assoc]
 rw[drop_cat (n:=8) (a:=wrapB) rfl,take_cat (h.at_s k hk)]
theorem Ok.bod (ss bs:List ByteArray) (m:ByteArray) (h:Ok ss bs m) (k:Nat) (hk:k<ss.length):((text ss bs m).drop (11+75*k+31)).take 43=B64.enc (at_ bs k):=by
 obtain ⟨r,hr⟩:=h.part _ _ _ k hk
 have e:31=8+(22+1):=rfl
 rw[←List.drop_drop,hr,e,←List.drop_drop,←List.drop_drop]
 unfold entry
 simp only[List.append_assoc]
 rw[drop_cat (n:=8) (a:=wrapB) rfl,drop_cat (h.at_s k hk),drop_cat (n:=1) (a:=[32]) rfl,take_cat (h.at_b k hk)]
theorem Ok.mac (ss bs:List ByteArray) (m:ByteArray) (h:Ok ss bs m):((text ss bs m).drop (11+75*ss.length+4)).take 43=B64.enc m.data.toList:=by
 have e:4=3+1:=rfl
 rw[←List.drop_drop,h.last,e,←List.drop_drop]
 simp only[List.append_assoc]
 rw[drop_cat (n:=3) (a:=mark) rfl,drop_cat (n:=1) (a:=[32]) rfl,take_cat h.at_m]
end Hd
namespace Hd
def wraps (z:Nat):Nat:=if z=134 then 1 else if z=209 then 2 else if z=284 then 3 else 0
theorem wraps_of {n:Nat} (h0:n≠0) (h3:¬ 3<n):wraps (59+75*n)=n:=
 match n,h0,h3 with
 | 1,_,_=>rfl
 | 2,_,_=>rfl
 | 3,_,_=>rfl
 | 0,h,_=>absurd rfl h
 | n+4,_,h=>absurd (by omega) h
theorem wraps_size {z:Nat} (h:wraps z≠0):z=59+75*wraps z∧wraps z≤3:=by
 unfold wraps at h ⊢
 split
 ·omega
 ·split
  ·omega
  ·split
   ·omega
   ·rename_i h1 h2 h3
    rw[if_neg h1,if_neg h2,if_neg h3] at h
    exact absurd rfl h
def lineOf (t:ByteArray) (i:Nat):ByteArray:=t.extract (11+75*i) (11+75*i+75)
def wS (l:ByteArray):ByteArray:=l.extract 8 30
def wB (l:ByteArray):ByteArray:=l.extract 31 74
def wM (t:ByteArray) (n:Nat):ByteArray:=t.extract (11+75*n+4) (11+75*n+47)
def err (x:ByteArray):Int:=(B64.decAns x.data.toList).2
def sals (t:ByteArray) (k:Nat):List ByteArray:=(List.range k).map fun i=>byT (wS (lineOf t i))
def bods (t:ByteArray) (k:Nat):List ByteArray:=(List.range k).map fun i=>byT (wB (lineOf t i))
theorem sals_succ (t:ByteArray) (k:Nat):sals t (k+1)=sals t k++[byT (wS (lineOf t k))]:=by simp[sals,List.range_succ]
theorem bods_succ (t:ByteArray) (k:Nat):bods t (k+1)=bods t k++[byT (wB (lineOf t k))]:=by simp[bods,List.range_succ]
theorem sals_len (t:ByteArray) (k:Nat):(sals t k).length=k:=by simp[sals]
theorem bods_len (t:ByteArray) (k:Nat):(bods t k).length=k:=by simp[bods]
theorem sub_sub (l:List UInt8) (a b c d:Nat) (h:c+d≤b):(((l.drop a).take b).drop c).take d=(l.drop (a+c)).take d:=by
 rw[List.drop_take,List.drop_drop,List.take_take,Nat.min_eq_left (by omega)]
theorem wS_list (t:ByteArray) (i:Nat):(wS (lineOf t i)).data.toList=(t.data.toList.drop (11+75*i+8)).take 22:=by
 unfold wS lineOf
 rw[sub_list,sub_list,show 11+75*i+75-(11+75*i)=75 by omega,sub_sub _ _ _ _ _ (by decide)]
theorem wB_list (t:ByteArray) (i:Nat):(wB (lineOf t i)).data.toList=(t.data.toList.drop (11+75*i+31)).take 43:=by
 unfold wB lineOf
 rw[sub_list,sub_list,show 11+75*i+75-(11+75*i)=75 by omega,sub_sub _ _ _ _ _ (by decide)]
theorem wM_list (t:ByteArray) (n:Nat):(wM t n).data.toList=(t.data.toList.drop (11+75*n+4)).take 43:=by
 unfold wM
 rw[sub_list,show 11+75*n+47-(11+75*n+4)=43 by omega]
section
variable {ss bs:List ByteArray} {m:ByteArray}
theorem Ok.rS (h:Ok ss bs m) (i:Nat) (hi:i<ss.length):B64.decAns (wS (lineOf (ofL (text ss bs m)) i)).data.toList=(at_ ss i,0):=by
 rw[wS_list,ofL_list,h.salt _ _ _ i hi,B64.decAns_enc]
theorem Ok.rB (h:Ok ss bs m) (i:Nat) (hi:i<ss.length):B64.decAns (wB (lineOf (ofL (text ss bs m)) i)).data.toList=(at_ bs i,0):=by
 rw[wB_list,ofL_list,h.bod _ _ _ i hi,B64.decAns_enc]
theorem Ok.rM (h:Ok ss bs m):B64.decAns (wM (ofL (text ss bs m)) ss.length).data.toList=(m.data.toList,0):=by
 rw[wM_list,ofL_list,h.mac,B64.decAns_enc]
theorem at_ofL (l:List ByteArray) (i:Nat) (hi:i<l.length):ofL (at_ l i)=l[i]:=by
 unfold at_
 rw[ofL_of,List.getD_eq_getElem?_getD,List.getElem?_eq_getElem hi]
 rfl
theorem Ok.sals_eq (h:Ok ss bs m):sals (ofL (text ss bs m)) ss.length=ss:=by
 refine List.ext_getElem (sals_len _ _) fun i h1 h2=>?_
 have e:(sals (ofL (text ss bs m)) ss.length)[i]=byT (wS (lineOf (ofL (text ss bs m)) i)):=(List.getElem_map _).trans (by rw[List.getElem_range])
 rw[e]
 unfold byT
 rw[h.rS i h2]
 exact at_ofL ss i h2
theorem Ok.bods_eq (h:Ok ss bs m):bods (ofL (text ss bs m)) ss.length=bs:=by
 refine List.ext_getElem ((bods_len _ _).trans h.nb.symm) fun i h1 h2=>?_
 have e:(bods (ofL (text ss bs m)) ss.length)[i]=byT (wB (lineOf (ofL (text ss bs m)) i)):=(List.getElem_map _).trans (by rw[List.getElem_range])
 rw[e]
 unfold byT
 rw[h.rB i (by rw[←h.nb];exact h2)]
 exact at_ofL bs i h2
theorem Ok.mac_eq (h:Ok ss bs m):byT (wM (ofL (text ss bs m)) ss.length)=m:=by
 unfold byT
 rw[h.rM]
theorem Ok.size_eq (h:Ok ss bs m):(ofL (text ss bs m)).size=59+75*ss.length:=by
 unfold ofL
 rw[ba_size,h.text_len]
theorem Ok.wraps_eq (h:Ok ss bs m):wraps (ofL (text ss bs m)).size=ss.length:=by rw[h.size_eq,wraps_of h.n0 h.n3]
end
theorem parse_no {t:ByteArray} (h:wraps t.size=0):parAns t=(nil,6):=by
 rcases parAns_cases t with h1 | ⟨ss,bs,m,hO,rfl,_⟩
 ·exact h1
 ·rw[hO.wraps_eq] at h
  exact absurd h hO.n0
theorem parse_line {t:ByteArray} {i:Nat} (hi:i<wraps t.size) (h:err (wS (lineOf t i))≠0∨err (wB (lineOf t i))≠0):parAns t=(nil,6):=by
 rcases parAns_cases t with h1 | ⟨ss,bs,m,hO,rfl,_⟩
 ·exact h1
 ·rw[hO.wraps_eq] at hi
  unfold err at h
  rw[hO.rS i hi,hO.rB i hi] at h
  rcases h with h | h <;> exact absurd rfl h
theorem parse_mac {t:ByteArray} {n:Nat} (hn:wraps t.size=n) (h:err (wM t n)≠0):parAns t=(nil,6):=by
 rcases parAns_cases t with h1 | ⟨ss,bs,m,hO,rfl,_⟩
 ·exact h1
 ·rw[hO.wraps_eq] at hn
  subst hn
  unfold err at h
  rw[hO.rM] at h
  exact absurd rfl h
theorem parse_ok {t:ByteArray} {ss bs:List ByteArray} {m:ByteArray} (h:prAns ss bs m=(t.data.toList,0)):parAns t=(⟨ss,bs,m⟩,0):=by
 obtain ⟨hO,ht⟩:=ok_of_prAns h
 rw[←ofL_of t,←ht]
 exact parAns_text hO
theorem parse_bad {t:ByteArray} {n:Nat} (hn:wraps t.size=n) (h:prAns (sals t n) (bods t n) (byT (wM t n))≠(t.data.toList,0)):parAns t=(nil,6):=by
 rcases parAns_cases t with h1 | ⟨ss,bs,m,hO,rfl,_⟩
 ·exact h1
 ·rw[hO.wraps_eq] at hn
  subst hn
  rw[hO.sals_eq,hO.bods_eq,hO.mac_eq,prAns_ok hO] at h
  exact absurd rfl h
end Hd
set_option maxRecDepth 100000 in
set_option maxHeartbeats 3200000 in
theorem pcheck_any (vs vb:Value) (mac:ByteArray) (ss bs:List ByteArray) (w:World) (h1:Strs w vs ss) (h2:Strs w vb bs) (hn1:ss.length≤1099511627776) (hn2:bs.length≤1099511627776):
  Calls Tryz.prog 99 #[.agg #[vs,vb,.string mac]] w fun e w'=>e = .returned (.int .i64 (Hd.prAns ss bs mac).2)∧Below w.heap.size w w':=by
 obtain ⟨ao,cp,rfl⟩:=h1.len
 obtain ⟨bo,dp,rfl⟩:=h2.len
 obtain ⟨ans,hans⟩:∃ a,(Hd.prAns ss bs mac).2=a:=⟨_,rfl⟩
 rw[hans]
 unfold Hd.prAns at hans
 have hbA:Below w.heap.size w (w.alloc (.cells #[.slice ao ss.length cp,.slice bo bs.length dp,.string mac] 70)):=(Below.refl _ _).alloc (Nat.le_refl _) _
 have hBlk:Blk (w.alloc (.cells #[.slice ao ss.length cp,.slice bo bs.length dp,.string mac] 70)) w.heap.size 70 [.slice ao ss.length cp,.slice bo bs.length dp,.string mac]:=Blk.new rfl rfl
 have HS1:=hide h1
 have HS2:=hide h2
 have HANS:=hide hans
 clear h1 h2 hans
 obtain ⟨n,hn⟩:∃ n:Nat,ss.length=n:=⟨_,rfl⟩
 obtain ⟨nb,hnb⟩:∃ n:Nat,bs.length=n:=⟨_,rfl⟩
 have ha:=HANS.out
 rw[hn,hnb] at ha
 rw[hn] at hbA hBlk hn1 ⊢
 rw[hnb] at hbA hBlk hn2 ⊢
 have HNN:=hide hn
 have HNB:=hide hnb
 have HB:=hide hbA
 have HBK:=hide hBlk
 clear HANS hn hnb hbA hBlk
 by_cases h0:n=0
 ·have z0:(decide ((n:Int)<1))=true:=by simp;omega
  rw[if_pos (.inl h0)] at ha
  subst ha
  clear h0 HS1 HS2 HNN HNB HBK
  go_enter Tryz.func99,Tryz.ntmps99
  go_wp2
  go_ret
  exact ⟨rfl,HB.out⟩
 ·have z0:(decide ((n:Int)<1))=false:=by simp;omega
  by_cases h3:3<n
  ·have z3:(decide ((3:Int)<(n:Int)))=true:=by simp;omega
   rw[if_pos (.inr (.inl h3))] at ha
   subst ha
   clear h0 h3 HS1 HS2 HNN HNB HBK
   go_enter Tryz.func99,Tryz.ntmps99
   go_wp2
   go_ret
   exact ⟨rfl,HB.out⟩
  ·have z3:(decide ((3:Int)<(n:Int)))=false:=by simp;omega
   by_cases hb:nb=n
   ·subst hb
    have zb:((nb:Int) != (nb:Int))=false:=by simp
    rw[if_neg (by omega)] at ha
    have HA:=hide ha
    clear ha
    go_enter Tryz.func99,Tryz.ntmps99
    go_wp2
    go_loopw [4] (fun i wr=>∃ k m:Nat,k≤nb∧i = .int .i64 (k:Nat)∧(∀ j,j<k→(ss.getD j ⟨#[]⟩).size=16∧(bs.getD j ⟨#[]⟩).size=32)∧wr=(w.alloc (.cells #[.slice ao nb cp,.slice bo nb dp,.string mac] 70)).drewN m) (fun i _=>nb-(intOf i).toNat)
    case atStart=>exact ⟨0,0,Nat.zero_le _,rfl,fun j hj=>absurd hj (by omega),rfl⟩
    case round=>
     obtain ⟨k,m,hk,rfl,hgood,rfl⟩:=hrel
     obtain ⟨WA,hWA⟩:∃ WA,(w.alloc (.cells #[.slice ao nb cp,.slice bo nb dp,.string mac] 70)).drewN m=WA:=⟨_,rfl⟩
     have hbl:Below w.heap.size w WA:=by rw[←hWA];exact below_drewN HB.out m
     have hbk:Blk WA w.heap.size 70 [.slice ao nb cp,.slice bo nb dp,.string mac]:=by rw[←hWA];exact HBK.out
     rw[hWA]
     have HWA:=hide hWA
     have c0:=hbk.cell (i:=0) rfl
     have c1:=hbk.cell (i:=1) rfl
     have c2:=hbk.cell (i:=2) rfl
     have HG:=hide hgood
     have HBL:=hide hbl
     clear hWA hgood hbk
     by_cases hlt:k<nb
     ·obtain ⟨g,o,c,hv1,hgl,e1⟩:=HS1.out.at k (by rw[HNN.out];exact hlt)
      injection hv1 with hv1 _ _
      subst hv1
      obtain ⟨g2,o2,cc2,hv2,hgl2,e2⟩:=HS2.out.at k (by rw[HNB.out];exact hlt)
      injection hv2 with hv2 _ _
      subst hv2
      replace e1:=(hbl.cell hgl).trans e1
      replace e2:=(hbl.cell hgl2).trans e2
      have jk:(k:Int)<(nb:Int):=by omega
      obtain ⟨sk,hsk⟩:∃ x,ss.getD k ⟨#[]⟩=x:=⟨_,rfl⟩
      obtain ⟨bk,hbk⟩:∃ x,bs.getD k ⟨#[]⟩=x:=⟨_,rfl⟩
      rw[hsk] at e1
      rw[hbk] at e2
      have HSK:=hide hsk
      have HBB:=hide hbk
      have HLT:=hide hlt
      clear hsk hbk hlt hgl hgl2 hbl
      by_cases hz1:sk.size=16
      ·by_cases hz2:bk.size=32
       ·have y1:((sk.size:Int) != 16)=false:=by rw[hz1];rfl
        have y2:((bk.size:Int) != 32)=false:=by rw[hz2];rfl
        have HZ1:=hide hz1
        have HZ2:=hide hz2
        clear hz1 hz2
        go_wp2
        go_roundw
        case rel=>
         have hlt:=HLT.out
         refine ⟨k+1,m,by omega,by go_num,fun j hj=>?_,HWA.out.symm⟩
         rcases Nat.lt_succ_iff_lt_or_eq.1 hj with h | h
         ·exact HG.out j h
         ·rw[h,HSK.out,HBB.out];exact ⟨HZ1.out,HZ2.out⟩
        case measure=>have hlt:=HLT.out;simp[intOf];omega
       ·have y1:((sk.size:Int) != 16)=false:=by rw[hz1];rfl
        have y2:((bk.size:Int) != 32)=true:=by rw[bne_iff_ne];omega
        have ha:=HA.out
        rw[if_pos (.inl ⟨k,HLT.out,.inr (by rw[HBB.out];exact hz2)⟩)] at ha
        subst ha
        clear hz1 hz2
        go_wp2
        go_ret
        exact ⟨rfl,HBL.out⟩
      ·have y1:((sk.size:Int) != 16)=true:=by rw[bne_iff_ne];omega
       have ha:=HA.out
       rw[if_pos (.inl ⟨k,HLT.out,.inl (by rw[HSK.out];exact hz1)⟩)] at ha
       subst ha
       clear hz1
       go_wp2
       go_ret
       exact ⟨rfl,HBL.out⟩
     ·have hkn:k=nb:=by omega
      subst hkn
      by_cases hm:mac.size=32
      ·have ym:((mac.size:Int) != 32)=false:=by rw[hm];rfl
       have ha:=HA.out
       have hgood:=HG.out
       rw[if_neg (by
        rintro (⟨i,hi,h⟩ | h)
        ·have:=hgood i hi
         omega
        ·exact h hm)] at ha
       subst ha
       clear hm hgood hlt hk
       go_wp2
       go_ret
       exact ⟨rfl,HBL.out⟩
      ·have ym:((mac.size:Int) != 32)=true:=by rw[bne_iff_ne];omega
       have ha:=HA.out
       rw[if_pos (.inr hm)] at ha
       subst ha
       clear hm hlt hk
       go_wp2
       go_ret
       exact ⟨rfl,HBL.out⟩
   ·have zb:((nb:Int) != (n:Int))=true:=by rw[bne_iff_ne];omega
    rw[if_pos (.inr (.inr hb))] at ha
    subst ha
    clear h0 h3 hb HS1 HS2 HNN HNB HBK
    go_enter Tryz.func99,Tryz.ntmps99
    go_wp2
    go_ret
    exact ⟨rfl,HB.out⟩
theorem Hd.prAns_bad {ss bs:List ByteArray} {m:ByteArray} (h:(Hd.prAns ss bs m).2≠0):(Hd.prAns ss bs m).1=[]:=by
 unfold Hd.prAns at h ⊢
 split
 ·rfl
 ·split
  ·rfl
  ·rename_i h1 h2
   rw[if_neg h1,if_neg h2] at h
   exact absurd rfl h
theorem Hd.prAns_good {ss bs:List ByteArray} {m:ByteArray} (h:(Hd.prAns ss bs m).2=0):Hd.Ok ss bs m∧Hd.prAns ss bs m=(Hd.text ss bs m,0):=by
 obtain ⟨h1,h2⟩:=Hd.ok_of_prAns (t:=(Hd.prAns ss bs m).1) (ss:=ss) (bs:=bs) (m:=m) (by rw[←h])
 exact ⟨h1,Hd.prAns_ok h1⟩
set_option maxRecDepth 100000 in
set_option maxHeartbeats 3200000 in
theorem pPrint_any (vs vb:Value) (mac:ByteArray) (ss bs:List ByteArray) (w:World) (h1:Strs w vs ss) (h2:Strs w vb bs) (hn1:ss.length≤1099511627776) (hn2:bs.length≤1099511627776):
  Calls Tryz.prog 65 #[.agg #[vs,vb,.string mac]] w fun e w'=>e = .returned (.tuple #[.string ⟨(Hd.prAns ss bs mac).1.toArray⟩,.int .i64 (Hd.prAns ss bs mac).2])∧Below w.heap.size w w':=by
 have HCK:=hide (fun (w':World) (hb:Below w.heap.size w w')=>pcheck_any vs vb mac ss bs w' (h1.after hb) (h2.after hb) hn1 hn2)
 by_cases hok:(Hd.prAns ss bs mac).2=0
 ·obtain ⟨hO,hA⟩:=Hd.prAns_good hok
  rw[hA] at HCK
  rw[hA]
  have hpl:=fun k hk=>hO.bodyP_len (k:=k) hk
  have HOS:=hide (fun i hi=>hO.at_s i hi)
  have HOB:=hide (fun i hi=>hO.at_b i hi)
  have hzs:=hO.hs
  have hzb:=hO.hb
  have hem:=hO.at_m
  have hms:=hO.hm
  have hn0:=hO.n0
  have hn3:=hO.n3
  have hnb:=hO.nb
  have htx:Hd.text ss bs mac=Hd.bodyP ss bs ss.length++Hd.mark++[32]++B64.enc mac.data.toList++[10]:=rfl
  obtain ⟨ao,cp,rfl⟩:=h1.len
  obtain ⟨bo,dp,rfl⟩:=h2.len
  have HS1:=hide h1
  have HS2:=hide h2
  rw[hnb] at HCK ⊢
  obtain ⟨n,hn⟩:∃ n:Nat,ss.length=n:=⟨_,rfl⟩
  rw[hn] at HCK hpl HOS HOB hzs hzb hn0 hn3 hnb htx ⊢
  have HNN:=hide hn
  have HNB:=hide hnb
  have HPL:=hide hpl
  have HZS:=hide hzs
  have HZB:=hide hzb
  have HTX:=hide htx
  have HENC:=hide (fun w=>pEncode_any mac w (by omega))
  have hem2:(⟨(B64.enc mac.data.toList).toArray⟩:ByteArray).size=43:=by rw[ba_size];exact hem
  have hbA:Below w.heap.size w (w.alloc (.cells #[.slice ao n cp,.slice bo n dp,.string mac] 70)):=(Below.refl _ _).alloc (Nat.le_refl _) _
  have hBlk:Blk (w.alloc (.cells #[.slice ao n cp,.slice bo n dp,.string mac] 70)) w.heap.size 70 [.slice ao n cp,.slice bo n dp,.string mac]:=Blk.new rfl rfl
  have HBA:=hide hbA
  have HBK:=hide hBlk
  have HCK1:=hide (HCK.out _ hbA)
  clear hO hA hok h1 h2 hn hpl hzs hzb hem hms hn0 hnb htx hn1 hn2 hbA hBlk HCK
  go_enter Tryz.func65,Tryz.ntmps65
  go_wp2_with fail
  refine HCK1.out.mono ?_
  rintro e w1 ⟨rfl,hb1⟩
  have HB1:=hide (HBA.out.trans (hb1.mono HBA.out.size))
  have HBK1:=hide (HBK.out.below hb1 HBK.out.lt)
  have hbl1:w.heap.size<w1.heap.size:=HBK1.out.lt
  have HBL:=hide hbl1
  clear HCK1 hb1 HBA HBK hbl1
  have c0:=HBK1.out.cell (i:=0) rfl
  go_wp2
  clear c0
  go_loopw [5,6] (fun t i wr=>∃ k:Nat,k≤n∧t = .string ⟨(Hd.bodyP ss bs k).toArray⟩∧i = .int .i64 (k:Nat)∧Below w.heap.size w wr∧Blk wr w.heap.size 70 [.slice ao n cp,.slice bo n dp,.string mac]) (fun _ i _=>n-(intOf i).toNat)
  case atStart=>exact ⟨0,Nat.zero_le _,rfl,rfl,HB1.out,HBK1.out⟩
  case round=>
   clear HB1 HBK1 HBL
   obtain ⟨k,hk,rfl,rfl,hbe,hbk⟩:=hrel
   have c0:=hbk.cell (i:=0) rfl
   have c1:=hbk.cell (i:=1) rfl
   have c2:=hbk.cell (i:=2) rfl
   have hbl:=hbk.lt
   have HBK:=hide hbk
   clear hbk
   have htl:=HPL.out k hk
   rw[←ba_size] at htl
   by_cases hlt:k<n
   ·obtain ⟨g,o,c,hv1,hgl,e1⟩:=HS1.out.at k (by rw[HNN.out];exact hlt)
    injection hv1 with hv1 _ hv1c
    subst hv1
    subst hv1c
    obtain ⟨g2,o2,cc2,hv2,hgl2,e2⟩:=HS2.out.at k (by rw[HNB.out];exact hlt)
    injection hv2 with hv2 _ hv2c
    subst hv2
    subst hv2c
    have f1:=(hbe.cell hgl).trans e1
    have f2:=(hbe.cell hgl2).trans e2
    have z1:=HZS.out k hlt
    have z2:=HZB.out k hlt
    have l1:=HOS.out k hlt
    have l2:=HOB.out k hlt
    have hnx:Hd.bodyP ss bs (k+1)=Hd.bodyP ss bs k++(Hd.wrapB++B64.enc (ss.getD k ⟨#[]⟩).data.toList++[32]++B64.enc (bs.getD k ⟨#[]⟩).data.toList++[10]):=rfl
    unfold Hd.at_ at l1 l2
    generalize ss.getD k ⟨#[]⟩=sk at *
    generalize bs.getD k ⟨#[]⟩=bk at *
    have HE1:=hide (fun w=>pEncode_any sk w (by omega))
    have HE2:=hide (fun w=>pEncode_any bk w (by omega))
    have hcc:(⟨(Hd.bodyP ss bs k).toArray⟩:ByteArray)++⟨#[45,62,32,119,114,97,112,32]⟩++⟨(B64.enc sk.data.toList).toArray⟩++⟨#[32]⟩++⟨(B64.enc bk.data.toList).toArray⟩++⟨#[10]⟩=⟨(Hd.bodyP ss bs (k+1)).toArray⟩:=by
     apply ba_ext
     rw[hnx]
     simp only[ba_list]
     unfold Hd.wrapB
     simp only[List.append_assoc]
    rw[←ba_size] at l1 l2
    generalize (⟨(B64.enc sk.data.toList).toArray⟩:ByteArray)=ea at *
    generalize (⟨(B64.enc bk.data.toList).toArray⟩:ByteArray)=eb at *
    generalize (⟨(Hd.bodyP ss bs k).toArray⟩:ByteArray)=tk at *
    have HCC:=hide hcc
    have hsz:=hbe.size
    have HBE:=hide hbe
    have jk:(k:Int)<(n:Int):=by omega
    have HLT:=hide hlt
    have u1:¬ (9223372036854775807<tk.size+8):=by omega
    have u2:¬ (9223372036854775807<tk.size+8+ea.size):=by omega
    have u3:¬ (9223372036854775807<tk.size+8+ea.size+1):=by omega
    have u4:¬ (9223372036854775807<tk.size+8+ea.size+1+eb.size):=by omega
    have u5:¬ (9223372036854775807<tk.size+8+ea.size+1+eb.size+1):=by omega
    clear hbe e1 e2 hnx z1 z2 l1 l2 hcc hlt htl hem2
    go_wp2_with fail
    refine (HE1.out _).mono ?_
    rintro e w2 ⟨rfl,hb2⟩
    have B2:=hide (HBE.out.trans (hb2.mono hsz))
    have BK2:=hide (HBK.out.below hb2 hbl)
    have d1:=BK2.out.cell (i:=1) rfl
    have hbl2:=BK2.out.lt
    have g2c:=(hb2.cell (Nat.lt_of_lt_of_le hgl2 hsz)).trans f2
    clear hb2 HE1 f1 f2 HBE c0 c1 c2 HBK hbl
    go_wp2_with fail
    refine (HE2.out _).mono ?_
    rintro e w3 ⟨rfl,hb3⟩
    have B3:=hide (B2.out.trans (hb3.mono B2.out.size))
    have BK3:=hide (BK2.out.below hb3 hbl2)
    clear hb3 HE2 g2c B2 d1 BK2 hbl2
    go_wp2
    go_roundw
    case rel=>
     have:=HLT.out
     exact ⟨k+1,by omega,by rw[HCC.out],by go_num,B3.out,BK3.out⟩
    case measure=>have:=HLT.out;simp[intOf];omega
   ·have hkn:k=n:=by omega
    subst hkn
    have hcc:(⟨(Hd.bodyP ss bs k).toArray⟩:ByteArray)++⟨#[45,45,45]⟩++⟨#[32]⟩++⟨(B64.enc mac.data.toList).toArray⟩++⟨#[10]⟩=⟨(Hd.text ss bs mac).toArray⟩:=by
     apply ba_ext
     rw[HTX.out]
     simp only[ba_list]
     unfold Hd.mark
     simp only[List.append_assoc]
    have HCC:=hide hcc
    generalize (⟨(Hd.bodyP ss bs k).toArray⟩:ByteArray)=tk at *
    generalize (⟨(B64.enc mac.data.toList).toArray⟩:ByteArray)=em at *
    have u1:¬ (9223372036854775807<tk.size+3):=by omega
    have u2:¬ (9223372036854775807<tk.size+3+1):=by omega
    have u3:¬ (9223372036854775807<tk.size+3+1+em.size):=by omega
    have u4:¬ (9223372036854775807<tk.size+3+1+em.size+1):=by omega
    have HBE:=hide hbe
    clear hcc hbe hlt hk htl hem2
    go_wp2_with fail
    refine (HENC.out _).mono ?_
    rintro e w2 ⟨rfl,hb2⟩
    have B2:=hide (HBE.out.trans (hb2.mono HBE.out.size))
    clear hb2 HENC HBE
    go_wp2
    refine bodyPost_ret (results_tmp2 rfl _ _ _) rfl ?_
    exact ⟨by rw[←HCC.out];rfl,B2.out⟩
 ·have hbad:=Hd.prAns_bad hok
  have zr:((Hd.prAns ss bs mac).2 != 0)=true:=by rw[bne_iff_ne];exact hok
  rw[hbad]
  generalize (Hd.prAns ss bs mac).2=er at *
  obtain ⟨ao,cp,rfl⟩:=h1.len
  obtain ⟨bo,dp,rfl⟩:=h2.len
  have hbA:Below w.heap.size w (w.alloc (.cells #[.slice ao ss.length cp,.slice bo bs.length dp,.string mac] 70)):=(Below.refl _ _).alloc (Nat.le_refl _) _
  have HBA:=hide hbA
  have HCK1:=hide (HCK.out _ hbA)
  clear h1 h2 hok hbad hbA HCK
  go_enter Tryz.func65,Tryz.ntmps65
  go_wp2_with fail
  refine HCK1.out.mono ?_
  rintro e w1 ⟨rfl,hb1⟩
  have HB1:=hide (HBA.out.trans (hb1.mono HBA.out.size))
  clear HCK1 hb1 HBA
  go_wp2
  refine bodyPost_ret (results_tmp2 rfl _ _ _) rfl ?_
  exact ⟨rfl,HB1.out⟩
structure Tabs (w:World):Prop where
 k:KTab w
 h:HTab w
 two:2≤w.heap.size
theorem Tabs.below {w w':World} {B:Nat} (t:Tabs w) (hb:Below B w w') (hB:2≤B):Tabs w':=⟨t.k.below hb hB,t.h.below hb hB,Nat.le_trans t.two hb.size⟩
theorem Tabs.after {w w':World} (t:Tabs w) (hb:Below w.heap.size w w'):Tabs w':=t.below hb t.two
namespace Ref
def hb (n:Nat) (j:Nat):List UInt8:=(List.range j).map fun i=>UInt8.ofNat (n/256 ^ (7-i)%256)
theorem hb_succ (n j:Nat):hb n (j+1)=hb n j++[UInt8.ofNat (n/256 ^ (7-j)%256)]:=by simp[hb,List.range_succ]
theorem hb_8 (n:Nat):hb n 8=nb n 8:=rfl
theorem nb_11 (n:Nat) (h:n<18446744073709551616):nb n 11=[0,0,0]++nb n 8:=by
 have e:∀ k,8≤k→n/256 ^ k=0:=fun k hk=>Nat.div_eq_of_lt (Nat.lt_of_lt_of_le h (Nat.pow_le_pow_right (n:=256) (by decide) hk))
 show UInt8.ofNat (n/256 ^ 10%256)::UInt8.ofNat (n/256 ^ 9%256)::UInt8.ofNat (n/256 ^ 8%256)::nb n 8=_
 rw[e 10 (by decide),e 9 (by decide),e 8 (by decide)]
 rfl
end Ref
theorem shr_nums (n j:Nat) (hj:j<8):(n:Int)/2 ^ (56-8*j)%256=(((UInt8.ofNat (n/256 ^ (7-j)%256)).toNat:Nat):Int):=by
 have e:(2:Nat) ^ (56-8*j)=256 ^ (7-j):=by rw[show 56-8*j=8*(7-j) by omega,Nat.pow_mul]
 have h:((n/2 ^ (56-8*j):Nat):Int)=(n:Int)/2 ^ (56-8*j):=by rw[Int.natCast_ediv,Int.natCast_pow];rfl
 rw[←h,e]
 simp
theorem Row.newB {w:World} {g base:Nat} {l:List UInt8} (h:Blk w g 5 (u8L l)) (hb:base≤g) (hl:l.length≤1000):Row w base 5 1 (.slice (some ⟨g,0,none⟩) l.length l.length) l.length (u8L l):=
 ⟨by simp[u8L],.inr ⟨g,l.length,u8L l,rfl,hb,h.marked,Nat.le_refl _,by unfold maxLen;omega,by simp[u8L],List.take_of_length_le (by simp[u8L])⟩⟩
set_option maxRecDepth 100000 in
set_option maxHeartbeats 1600000 in
theorem nonceOf_any (n:Nat) (last:Bool) (w:World) (hn:n≤1125899906842624):
  Calls Tryz.prog 90 #[.int .u64 (n:Nat),.bool last] w fun e w'=>e = .returned (.string ⟨(Ref.nonce n last).toArray⟩)∧Below w.heap.size w w':=by
 have hfin:Ref.nonce n last=([0,0,0]++Ref.hb n 8)++[if last then 1 else 0]:=by unfold Ref.nonce;rw[Ref.nb_11 n (by omega),Ref.hb_8]
 have HFIN:=hide hfin
 have HSU:=hide (Ref.hb_succ n)
 have HNU:=hide (shr_nums n)
 generalize Ref.nonce n last=NN at *
 clear hfin
 go_enter Tryz.func90,Tryz.ntmps90
 have HR0:=hide (show Row (w.alloc (.cells #[.int .u8 0,.int .u8 0,.int .u8 0] 5)) w.heap.size 5 1 (.slice (some ⟨w.heap.size,0,none⟩) 3 3) 3 (u8L [0,0,0]) from Row.newB (l:=[0,0,0]) (Blk.new rfl rfl) (Nat.le_refl _) (by decide))
 go_wp2
 go_loopw [5,6] (fun v vn wr=>∃ j:Nat,j≤8∧vn = .int .u32 ((64-8*j:Nat):Int)∧Row wr w.heap.size 5 1 v (3+j) (u8L ([0,0,0]++Ref.hb n j))∧Below w.heap.size w wr) (fun _ i _=>(intOf i).toNat)
 case atStart=>exact ⟨0,by omega,rfl,HR0.out,(Below.refl _ _).alloc (Nat.le_refl _) _⟩
 case round=>
  clear HR0
  obtain ⟨j,hj,rfl,hr,hbe⟩:=hrel
  have hsz:=hbe.size
  by_cases hlt:j<8
  ·obtain ⟨N,hN⟩:∃ N:Nat,64-8*j=N:=⟨_,rfl⟩
   obtain ⟨c,hc⟩:∃ c:Nat,56-8*j=c:=⟨_,rfl⟩
   have e8:=HNU.out j hlt
   rw[hc] at e8
   have hnx:=HSU.out j
   obtain ⟨X,hX⟩:∃ X:UInt8,UInt8.ofNat (n/256 ^ (7-j)%256)=X:=⟨_,rfl⟩
   rw[hX] at e8 hnx
   rw[hN]
   have j0:(0:Int)<(N:Int):=by omega
   have n1:((N:Int)-8)=(c:Int):=by omega
   have n2:(c:Int)%4294967296=(c:Int):=by omega
   have hmin:min c 64=c:=by omega
   have HC:=hide (show c=64-8*(j+1)∧c<N by omega)
   have E8:=hide e8
   have HNX:=hide hnx
   have HR:=hide hr
   have HBE:=hide hbe
   obtain ⟨ao,cap,rfl,hd1,hd2⟩:=Row.anyN hr
   unfold maxLen at hd2
   clear hr hbe e8 hnx hN hc hX
   go_wp2_with (at_builtin;refine wpList_append_u8 rfl (.tmp 13) (.tmp 19) rfl w.heap.size _ (3+j) _ rfl (HR.out.alloc _) ⟨wr.heap.size,0,none⟩ 1 1 [X] rfl rfl (one_news E8.out (World.cell?_alloc_at _ _ _ _ rfl)) ?_ ?_ ?_;omega;(simp;omega);intro v1 w1 hr1 hg1 hat1)
   go_roundw
   case rel=>
    refine ⟨j+1,by omega,by rw[←HC.out.1],?_,Below.grown (HBE.out.alloc hsz _) hg1 (by simp;omega) (fun k hk=>(HR.out.lt k hk).1)⟩
    rw[HNX.out,←List.append_assoc]
    exact hr1
   case measure=>have:=HC.out.2;simp[intOf];omega
  ·obtain rfl:j=8:=by omega
   have HR:=hide hr
   have HBE:=hide hbe
   obtain ⟨ao,cap,rfl,hd1,hd2⟩:=Row.anyN hr
   unfold maxLen at hd2
   have HSA:=hide (fun (w':World) (v':Value) (l:List UInt8) (h:Row w' w.heap.size 5 1 v' 12 (u8L l))=>Row.strAny h)
   clear hr hbe hlt hj
   cases last
   ·have hfin:=HFIN.out
    simp only[Bool.false_eq_true,if_false] at hfin
    have HF:=hide hfin
    clear hfin HFIN
    go_wp2_with (at_builtin;refine wpList_append_u8 rfl (.tmp 22) (.tmp 24) rfl w.heap.size _ (3+8) _ rfl (HR.out.alloc _) ⟨wr.heap.size,0,none⟩ 1 1 [0] rfl rfl (one_news rfl (World.cell?_alloc_at _ _ _ _ rfl)) ?_ ?_ ?_;omega;(simp;omega);intro v1 w1 hr1 hg1 hat1;rw[←HF.out] at hr1;obtain ⟨ao2,cap2,rfl,hd3,hd4,hcv⟩:=HSA.out _ _ _ hr1;unfold maxLen at hd4)
    go_ret
    exact ⟨rfl,Below.grown (HBE.out.alloc hsz _) hg1 (by simp;omega) (fun k hk=>(HR.out.lt k hk).1)⟩
   ·have hfin:=HFIN.out
    simp only[if_true] at hfin
    have HF:=hide hfin
    clear hfin HFIN
    go_wp2_with (at_builtin;refine wpList_append_u8 rfl (.tmp 22) (.tmp 24) rfl w.heap.size _ (3+8) _ rfl (HR.out.alloc _) ⟨wr.heap.size,0,none⟩ 1 1 [1] rfl rfl (one_news rfl (World.cell?_alloc_at _ _ _ _ rfl)) ?_ ?_ ?_;omega;(simp;omega);intro v1 w1 hr1 hg1 hat1;rw[←HF.out] at hr1;obtain ⟨ao2,cap2,rfl,hd3,hd4,hcv⟩:=HSA.out _ _ _ hr1;unfold maxLen at hd4)
    go_ret
    exact ⟨rfl,Below.grown (HBE.out.alloc hsz _) hg1 (by simp;omega) (fun k hk=>(HR.out.lt k hk).1)⟩
set_option maxHeartbeats 800000 in
theorem sealChunk_any (key:ByteArray) (n:Nat) (last:Bool) (text:ByteArray) (w:World) (hk:key.size=32) (hn:n≤1125899906842624) (ht:text.size≤1099511627):
  Calls Tryz.prog 57 #[.string key,.int .u64 (n:Nat),.bool last,.string text] w fun e w'=>e = .returned (.tuple #[.string ⟨(Ref.box key.data.toList n last text.data.toList).toArray⟩,.int .i64 0])∧Below w.heap.size w w':=by
 have HN:=hide (fun w=>nonceOf_any n last w hn)
 have hnl:(⟨(Ref.nonce n last).toArray⟩:ByteArray).size=12:=by rw[two_size,Ref.nonce_len]
 have HS:=hide (fun w=>pseal_ok key ⟨(Ref.nonce n last).toArray⟩ ⟨#[]⟩ text w (by decide) ht)
 have hv:Box.sealAns key ⟨(Ref.nonce n last).toArray⟩ ⟨#[]⟩ text=(Ref.box key.data.toList n last text.data.toList,0):=by
  unfold Box.sealAns Ref.box
  rw[if_neg (by rw[hk,hnl];decide),if_pos (by rw[text_len,hk])]
 unfold ansV at HS
 rw[hv] at HS
 generalize Ref.box key.data.toList n last text.data.toList=BX at *
 generalize (⟨(Ref.nonce n last).toArray⟩:ByteArray)=nn at *
 clear hv hnl hk hn ht
 go_enter Tryz.func57,Tryz.ntmps57
 go_wp2_with fail
 refine (HN.out _).mono ?_
 rintro e w1 ⟨rfl,be1⟩
 clear HN
 go_wp2_with fail
 refine (HS.out _).mono ?_
 rintro e w2 ⟨rfl,be2⟩
 have BE2:=hide (be1.trans (be2.mono be1.size))
 clear HS be1 be2
 go_wp2
 refine bodyPost_ret (results_tmp2 rfl _ _ _) rfl ?_
 exact ⟨rfl,BE2.out⟩
def nought (n:Nat):List UInt8:=List.replicate n 0
set_option maxHeartbeats 1600000 in
theorem noughts_any (n:Nat) (w:World) (hn:n≤1000):
  Calls Tryz.prog 113 #[.int .i64 (n:Nat)] w fun e w'=>e = .returned (.string ⟨(nought n).toArray⟩)∧Below w.heap.size w w':=by
 go_enter Tryz.func113,Tryz.ntmps113
 go_wp2
 go_loopw [3,4] (fun v vi wr=>∃ j:Nat,j≤n∧vi = .int .i64 (j:Nat)∧Row wr w.heap.size 5 1 v j (u8L (nought j))∧Below w.heap.size w wr) (fun _ i _=>n-(intOf i).toNat)
 case atStart=>exact ⟨0,Nat.zero_le _,rfl,Row.empty _ _ (heap_alloc_new _ _) _ (Nat.le_refl _),(Below.refl _ _).alloc (Nat.le_refl _) _⟩
 case round=>
  obtain ⟨j,hj,rfl,hr,hbe⟩:=hrel
  have hsz:=hbe.size
  have HBE:=hide hbe
  by_cases hlt:j<n
  ·have jj:(j:Int)<(n:Int):=by omega
   have HNX:=hide (show nought (j+1)=nought j++[0] from List.replicate_succ')
   have HR:=hide hr
   have HLT:=hide hlt
   obtain ⟨ao,cap,rfl,hd1,hd2⟩:=Row.anyN hr
   unfold maxLen at hd2
   clear hr hbe
   go_wp2_with (at_builtin;refine wpList_append_u8 rfl (.tmp 11) (.tmp 12) rfl w.heap.size _ j _ rfl (HR.out.alloc _) ⟨wr.heap.size,0,none⟩ 1 1 [0] rfl rfl (one_news rfl (World.cell?_alloc_at _ _ _ _ rfl)) ?_ ?_ ?_;omega;(simp;omega);intro v1 w1 hr1 hg1 hat1)
   go_roundw
   case rel=>
    have:=HLT.out
    refine ⟨j+1,by omega,by go_num,?_,Below.grown (HBE.out.alloc hsz _) hg1 (by simp;omega) (fun k hk=>(HR.out.lt k hk).1)⟩
    rw[HNX.out]
    exact hr1
   case measure=>have:=HLT.out;simp[intOf];omega
  ·obtain rfl:j=n:=by omega
   have jj:¬ (j:Int)<(j:Int):=by omega
   obtain ⟨ao2,cap2,rfl,hd1,hd2,hcv⟩:=Row.strAny hr
   unfold maxLen at hd2
   clear hr hbe hlt hj
   go_wp2
   go_ret
   exact ⟨rfl,HBE.out⟩
namespace Ref
def wrapL (master salt key:List UInt8):List UInt8:=Box.sealed (keyL master salt inWrap) (nought 12) [] key
def chkM (l:List ByteArray):Int:=if l.length=0∨3<l.length then 2 else if ∃ i,i<l.length∧(l.getD i ⟨#[]⟩).size≠32 then 1 else 0
end Ref
set_option maxHeartbeats 800000 in
theorem wrap_any (master salt key:ByteArray) (w:World) (ht:Tabs w) (h1:master.size≤1099511627) (h2:salt.size≤1099511627) (h3:key.size≤1099511627):
  Calls Tryz.prog 112 #[.string master,.string salt,.string key] w fun e w'=>e = .returned (.tuple #[.string ⟨(Ref.wrapL master.data.toList salt.data.toList key.data.toList).toArray⟩,.int .i64 0])∧Below w.heap.size w w':=by
 have HK:=hide (kKey_any master salt ⟨#[119,114,97,112]⟩ w (by omega) (by omega) (by decide) ht.k ht.h ht.two)
 have HKV:=hide (show Ref.keyL master.data.toList salt.data.toList Ref.inWrap=(expO (macL salt.data.toList master.data.toList) (⟨#[119,114,97,112]⟩:ByteArray).data.toList 1).take 32 from rfl)
 rw[←HKV.out] at HK
 have hkl:=Ref.keyL_len master.data.toList salt.data.toList Ref.inWrap
 have HN:Hid (∀ w,Calls Tryz.prog 113 #[.int .i64 12] w fun e w'=>e = .returned (.string ⟨(nought 12).toArray⟩)∧Below w.heap.size w w'):=hide (fun w=>noughts_any 12 w (by decide))
 have HS:=hide (fun w=>pseal_ok ⟨(Ref.keyL master.data.toList salt.data.toList Ref.inWrap).toArray⟩ ⟨(nought 12).toArray⟩ ⟨#[]⟩ key w (by decide) h3)
 have hv:Box.sealAns ⟨(Ref.keyL master.data.toList salt.data.toList Ref.inWrap).toArray⟩ ⟨(nought 12).toArray⟩ ⟨#[]⟩ key=(Ref.wrapL master.data.toList salt.data.toList key.data.toList,0):=by
  unfold Box.sealAns Ref.wrapL
  rw[if_neg (by rw[two_size,hkl];decide)]
 unfold ansV at HS
 rw[hv] at HS
 generalize Ref.wrapL master.data.toList salt.data.toList key.data.toList=WL at *
 generalize (⟨(Ref.keyL master.data.toList salt.data.toList Ref.inWrap).toArray⟩:ByteArray)=kk at *
 generalize (⟨(nought 12).toArray⟩:ByteArray)=nn at *
 clear hv hkl h1 h2 h3 ht HKV
 go_enter Tryz.func112,Tryz.ntmps112
 go_wp2_with fail
 refine HK.out.mono ?_
 rintro e w1 ⟨rfl,be1⟩
 have B1:=hide be1
 clear HK be1
 go_wp2_with fail
 refine (HN.out _).mono ?_
 rintro e w2 ⟨rfl,be2⟩
 have B2:=hide (B1.out.trans (be2.mono B1.out.size))
 clear HN be2 B1
 go_wp2_with fail
 refine (HS.out _).mono ?_
 rintro e w3 ⟨rfl,be3⟩
 have B3:=hide (B2.out.trans (be3.mono B2.out.size))
 clear HS be3 B2
 go_wp2
 refine bodyPost_ret (results_tmp2 rfl _ _ _) rfl ?_
 exact ⟨rfl,B3.out⟩
theorem Ref.wrapL_len (m s k:List UInt8):(Ref.wrapL m s k).length=k.length+16:=Box.sealed_len _ _ _ _
set_option maxRecDepth 100000 in
set_option maxHeartbeats 800000 in
theorem macOf_any (key hd:ByteArray) (w:World) (ht:Tabs w) (h1:key.size≤1099511627) (h2:45≤hd.size) (h3:hd.size≤1099511627):
  Calls Tryz.prog 93 #[.string key,.string hd] w fun e w'=>e = .returned (.string ⟨(macL (Ref.keyL key.data.toList [] Ref.inHead) (hd.data.toList.take (hd.size-45))).toArray⟩)∧Below w.heap.size w w':=by
 have HK:=hide (kKey_any key ⟨#[]⟩ ⟨#[104,101,97,100,101,114]⟩ w (by omega) (by decide) (by decide) ht.k ht.h ht.two)
 have HKV:=hide (show Ref.keyL key.data.toList [] Ref.inHead=(expO (macL (⟨#[]⟩:ByteArray).data.toList key.data.toList) (⟨#[104,101,97,100,101,114]⟩:ByteArray).data.toList 1).take 32 from rfl)
 rw[←HKV.out] at HK
 have hkl:=Ref.keyL_len key.data.toList [] Ref.inHead
 obtain ⟨E,hE⟩:∃ E:Nat,hd.size-45=E:=⟨_,rfl⟩
 have HM:=hide (fun (w':World) (t:Tabs w')=>hmac_any ⟨(Ref.keyL key.data.toList [] Ref.inHead).toArray⟩ (hd.extract 0 E) w' (by rw[two_size,hkl];decide) (by rw[ByteArray.size_extract];omega) t.k t.h t.two)
 rw[ext_take,two_toList] at HM
 rw[hE]
 generalize macL (Ref.keyL key.data.toList [] Ref.inHead) (hd.data.toList.take E)=MM at *
 generalize (⟨(Ref.keyL key.data.toList [] Ref.inHead).toArray⟩:ByteArray)=kk at *
 have HT:=hide ht
 have n1:IntKind.i64.wrap ((hd.size:Int)-45)=(E:Int):=(IntWalk.i64_in _ (by omega)).trans (by omega)
 have n2:(hd.size:Int)-45=(E:Int):=by omega
 have n3:wrap64 (E:Int)=(E:Int):=IntWalk.wrap64_in _ (by omega)
 have j0:¬ (E:Int)<0:=by omega
 have j1:(E:Int)≤(hd.size:Int):=by omega
 have j2:E≤hd.size:=by omega
 clear hkl h1 h2 h3 ht HKV hE
 go_enter Tryz.func93,Tryz.ntmps93
 go_wp2_with fail
 refine HK.out.mono ?_
 rintro e w1 ⟨rfl,be1⟩
 have B1:=hide be1
 have HM1:=hide (HM.out w1 (HT.out.after be1))
 clear HK be1 HM
 go_wp2_with fail
 refine HM1.out.mono ?_
 rintro e w2 ⟨rfl,be2⟩
 have B2:=hide (B1.out.trans (be2.mono B1.out.size))
 clear HM1 be2 B1
 go_wp2
 go_ret
 exact ⟨rfl,B2.out⟩
set_option maxHeartbeats 1600000 in
theorem checkMasters_any (v:Value) (l:List ByteArray) (w:World) (hv:Strs w v l) (hl:l.length≤1099511627776):
  Calls Tryz.prog 79 #[v] w fun e w'=>e = .returned (.int .i64 (Ref.chkM l))∧∃ m,w'=w.drewN m:=by
 obtain ⟨ao,cp,rfl⟩:=hv.len
 obtain ⟨ans,hans⟩:∃ a,Ref.chkM l=a:=⟨_,rfl⟩
 rw[hans]
 unfold Ref.chkM at hans
 have HS:=hide hv
 obtain ⟨n,hn⟩:∃ n:Nat,l.length=n:=⟨_,rfl⟩
 rw[hn] at hans hl ⊢
 have HNN:=hide hn
 clear hv hn
 by_cases h0:n=0
 ·have z0:(decide ((n:Int)<1))=true:=by simp;omega
  rw[if_pos (.inl h0)] at hans
  subst hans
  clear h0 HS HNN
  go_enter Tryz.func79,Tryz.ntmps79
  go_wp2
  go_ret
  exact ⟨rfl,0,rfl⟩
 ·have z0:(decide ((n:Int)<1))=false:=by simp;omega
  by_cases h3:3<n
  ·have z3:(decide ((3:Int)<(n:Int)))=true:=by simp;omega
   rw[if_pos (.inr h3)] at hans
   subst hans
   clear h0 h3 HS HNN
   go_enter Tryz.func79,Tryz.ntmps79
   go_wp2
   go_ret
   exact ⟨rfl,0,rfl⟩
  ·have z3:(decide ((3:Int)<(n:Int)))=false:=by simp;omega
   rw[if_neg (by omega)] at hans
   have HA:=hide hans
   clear hans
   go_enter Tryz.func79,Tryz.ntmps79
   go_wp2
   go_loopw [3] (fun i wr=>∃ k m:Nat,k≤n∧i = .int .i64 (k:Nat)∧(∀ j,j<k→(l.getD j ⟨#[]⟩).size=32)∧wr=w.drewN m) (fun i _=>n-(intOf i).toNat)
   case atStart=>exact ⟨0,0,Nat.zero_le _,rfl,fun j hj=>absurd hj (by omega),rfl⟩
   case round=>
    obtain ⟨k,m,hk,rfl,hgood,rfl⟩:=hrel
    have HG:=hide hgood
    clear hgood
    by_cases hlt:k<n
    ·obtain ⟨g,o,c,hv1,hgl,e1⟩:=HS.out.at k (by rw[HNN.out];exact hlt)
     injection hv1 with hv1 _ hv1c
     subst hv1
     subst hv1c
     have e1':(w.drewN m).cell? ⟨g,o+k,none⟩=some (.string (l.getD k ⟨#[]⟩)):=e1
     have jk:(k:Int)<(n:Int):=by omega
     obtain ⟨sk,hsk⟩:∃ x,l.getD k ⟨#[]⟩=x:=⟨_,rfl⟩
     rw[hsk] at e1'
     have HSK:=hide hsk
     have HLT:=hide hlt
     clear hsk hlt hgl e1
     by_cases hz1:sk.size=32
     ·have y1:((sk.size:Int) != 32)=false:=by rw[hz1];rfl
      have HZ1:=hide hz1
      clear hz1
      go_wp2
      go_roundw
      case rel=>
       have hlt:=HLT.out
       refine ⟨k+1,m,by omega,by go_num,fun j hj=>?_,rfl⟩
       rcases Nat.lt_succ_iff_lt_or_eq.1 hj with h | h
       ·exact HG.out j h
       ·rw[h,HSK.out];exact HZ1.out
      case measure=>have hlt:=HLT.out;simp[intOf];omega
     ·have y1:((sk.size:Int) != 32)=true:=by rw[bne_iff_ne];omega
      have ha:=HA.out
      rw[if_pos ⟨k,HLT.out,by rw[HSK.out];exact hz1⟩] at ha
      subst ha
      clear hz1
      go_wp2
      go_ret
      exact ⟨rfl,m,rfl⟩
    ·have hkn:k=n:=by omega
     subst hkn
     have jk:¬ ((k:Int)<(k:Int)):=by omega
     have ha:=HA.out
     have hgood:=HG.out
     rw[if_neg (by rintro ⟨i,hi,h⟩;exact h (hgood i hi))] at ha
     subst ha
     clear hgood hlt hk
     go_wp2
     go_ret
     exact ⟨rfl,m,rfl⟩
/-! What the caller brings: springs,sinks. -/
def springCells (s:ByteArray) (p:Nat):List Value:=[.string s,.int .i64 ((p:Nat):Int)]
theorem draw_nums (n p:Nat) (hp:p≤n) (hn:n<1125899906842624):∃ d q:Nat,d=n-p∧q=p+16∧IntKind.i64.wrap ((n:Int)-(p:Int))=(d:Int)∧wrap64 ((n:Int)-(p:Int))=(d:Int)∧IntKind.i64.wrap ((p:Int)+16)=(q:Int)∧wrap64 ((p:Int)+16)=(q:Int):=
 ⟨n-p,p+16,rfl,rfl,(IntWalk.i64_in _ (by omega)).trans (by omega),(IntWalk.wrap64_in _ (by omega)).trans (by omega),(IntWalk.i64_in _ (by omega)).trans (by omega),(IntWalk.wrap64_in _ (by omega)).trans (by omega)⟩
set_option maxHeartbeats 800000 in
theorem draw_bad (b:Nat) (s:ByteArray) (p:Nat) (w:World) (hb:Blk w b 94 (springCells s p)) (hp:p≤s.size) (hs:s.size<1125899906842624) (h:s.size<p+16):
  Calls Tryz.prog 81 #[.pointer (some ⟨b,0,none⟩),.int .i64 16] w fun e w'=>e = .returned (.tuple #[.string ⟨#[]⟩,.int .i64 15])∧∃ m,w'=w.drewN m:=by
 have c0:w.cell? ⟨b,0,none⟩=some (.string s):=hb.cell rfl
 have c1:w.cell? ⟨b,1,none⟩=some (.int .i64 ((p:Nat):Int)):=hb.cell rfl
 obtain ⟨d,q,hd,hq,t1,t2,t3,t4⟩:=draw_nums s.size p hp hs
 have j1:(d:Int)<16:=by omega
 clear hd hq hp hs h hb
 go_enter Tryz.func81,Tryz.ntmps81
 go_wp2
 go_region
 go_wp2
 refine bodyPost_ret (results_tmp2 rfl _ _ _) rfl ?_
 exact ⟨rfl,1,rfl⟩
set_option maxHeartbeats 800000 in
theorem draw_good (b:Nat) (s:ByteArray) (p:Nat) (w:World) (hb:Blk w b 94 (springCells s p)) (hs:s.size<1125899906842624) (h:p+16≤s.size):
  Calls Tryz.prog 81 #[.pointer (some ⟨b,0,none⟩),.int .i64 16] w fun e w'=>e = .returned (.tuple #[.string (s.extract p (p+16)),.int .i64 0])∧Blk w' b 94 (springCells s (p+16))∧w.grownBy w' (some b):=by
 have c0:w.cell? ⟨b,0,none⟩=some (.string s):=hb.cell rfl
 have c1:w.cell? ⟨b,1,none⟩=some (.int .i64 ((p:Nat):Int)):=hb.cell rfl
 have hf:=hb.frozen
 obtain ⟨d,q,hd,hq,t1,t2,t3,t4⟩:=draw_nums s.size p (by omega) hs
 have j1:¬ (d:Int)<16:=by omega
 have j2:(p:Int)≤(q:Int):=by omega
 have j3:(q:Int)≤(s.size:Int):=by omega
 rw[←hq]
 have hB:=hb.setCell_same 1 (.int .i64 ((q:Nat):Int))
 have HB:=hide hB
 have HG:=hide ((World.grownBy.refl w (some b)).setCell 1 (.int .i64 ((q:Nat):Int)))
 clear hd hq hs h hb hB
 go_enter Tryz.func81,Tryz.ntmps81
 go_wp2
 go_region
 go_wp2
 go_region
 go_wp2
 refine bodyPost_ret (results_tmp2 rfl _ _ _) rfl ?_
 exact ⟨rfl,HB.out.drewN 2,HG.out.drewN 2⟩
def sinkCells (got:ByteArray) (g n pos:Nat):List Value:=[.string got,.slice (some ⟨g,0,none⟩) n n,.int .i64 ((pos:Nat):Int)]
def sinkN (plan:List Int) (pos n:Nat):Option Nat:=if pos<plan.length then (if plan.getD pos 0<0 then none else some (if plan.getD pos 0<(n:Int) then (plan.getD pos 0).toNat else n)) else some n
def sinkAt (plan:List Int) (pos:Nat):Nat:=if pos<plan.length then pos+1 else pos
theorem sinkN_le {plan:List Int} {pos n k:Nat} (h:sinkN plan pos n=some k):k≤n:=by
 unfold sinkN at h
 split at h
 ·split at h
  ·cases h
  ·rename_i h2
   have h3:=Option.some.inj h
   split at h3 <;> omega
 ·have h3:=Option.some.inj h
  omega
theorem intV_get (l:List Int) (i:Nat) (h:i<l.length):(intV l)[i]? = some (.int .i64 (l.getD i 0)):=by
 simp[intV,List.getD,h]
set_option maxHeartbeats 1600000 in
theorem sinkWrite_any (b g:Nat) (got s:ByteArray) (plan:List Int) (pos:Nat) (w:World) (hb:Blk w b 96 (sinkCells got g plan.length pos)) (hg:Blk w g 3 (intV plan)) (hs:got.size+s.size<1125899906842624) (hps:pos<1125899906842624):
  Calls Tryz.prog 83 #[.pointer (some ⟨b,0,none⟩),.string s] w fun e w'=>
   e = .returned (.tuple #[.int .i64 (((sinkN plan pos s.size).getD 0:Nat):Int),.int .i64 (if sinkN plan pos s.size=none then 16 else 0)]) ∧
   Blk w' b 96 (sinkCells (got++s.extract 0 ((sinkN plan pos s.size).getD 0)) g plan.length (sinkAt plan pos))∧w.grownBy w' (some b):=by
 have c0:w.cell? ⟨b,0,none⟩=some (.string got):=hb.cell rfl
 have c1:w.cell? ⟨b,1,none⟩=some (.slice (some ⟨g,0,none⟩) plan.length plan.length):=hb.cell rfl
 have c2:w.cell? ⟨b,2,none⟩=some (.int .i64 ((pos:Nat):Int)):=hb.cell rfl
 have hf:=hb.frozen
 unfold sinkN sinkAt
 by_cases hp:pos<plan.length
 ·have cg:=hg.cell (intV_get plan pos hp)
  rw[if_pos hp,if_pos hp]
  obtain ⟨q,hq⟩:∃ q:Nat,q=pos+1:=⟨_,rfl⟩
  have t1:IntKind.i64.wrap ((pos:Int)+1)=(q:Int):=(IntWalk.i64_in _ (by omega)).trans (by omega)
  have t2:wrap64 ((pos:Int)+1)=(q:Int):=(IntWalk.wrap64_in _ (by omega)).trans (by omega)
  rw[←hq]
  have j1:(pos:Int)<(plan.length:Int):=by omega
  have ne:g≠b:=by
   intro e
   subst e
   have h:=hb.symm.trans hg
   simp[sinkCells] at h
  generalize plan.getD pos 0=k at *
  by_cases hk:k<0
  ·rw[if_pos hk]
   have HB:=hide (hb.setCell_same 2 (.int .i64 ((q:Nat):Int)))
   have HG:=hide ((World.grownBy.refl w (some b)).setCell 2 (.int .i64 ((q:Nat):Int)))
   clear hb hg hs hps hq hp
   go_enter Tryz.func83,Tryz.ntmps83
   go_wp2
   go_region
   go_wp2
   go_region
   go_wp2
   refine bodyPost_ret (results_tmp2 rfl _ _ _) rfl ?_
   exact ⟨rfl,HB.out.drewN 2,HG.out.drewN 2⟩
  ·rw[if_neg hk]
   obtain ⟨kn,rfl⟩:∃ kn:Nat,k=(kn:Int):=⟨k.toNat,by omega⟩
   by_cases hks:(kn:Int)<(s.size:Int)
   ·rw[if_pos hks]
    have j2:kn≤s.size:=by omega
    have j3:¬ 9223372036854775807<got.size+(s.extract 0 kn).size:=by rw[ByteArray.size_extract];omega
    have HB:=hide ((hb.setCell_same 2 (.int .i64 ((q:Nat):Int))).setCell_same 0 (.string (got++s.extract 0 kn)))
    have HG:=hide (((World.grownBy.refl w (some b)).setCell 2 (.int .i64 ((q:Nat):Int))).setCell 0 (.string (got++s.extract 0 kn)))
    clear hb hg hs hps hq hp hk
    go_enter Tryz.func83,Tryz.ntmps83
    go_wp2
    go_region
    go_wp2
    go_region
    go_wp2
    go_region
    go_wp2
    refine bodyPost_ret (results_tmp2 rfl _ _ _) rfl ?_
    exact ⟨rfl,HB.out.drewN 3,HG.out.drewN 3⟩
   ·rw[if_neg hks]
    have j3:¬ 9223372036854775807<got.size+s.size:=by omega
    have HB:=hide ((hb.setCell_same 2 (.int .i64 ((q:Nat):Int))).setCell_same 0 (.string (got++s)))
    have HG:=hide (((World.grownBy.refl w (some b)).setCell 2 (.int .i64 ((q:Nat):Int))).setCell 0 (.string (got++s)))
    clear hb hg hs hps hq hp hk
    go_enter Tryz.func83,Tryz.ntmps83
    go_wp2
    go_region
    go_wp2
    go_region
    go_wp2
    go_region
    go_wp2
    refine bodyPost_ret (results_tmp2 rfl _ _ _) rfl ?_
    exact ⟨rfl,HB.out.drewN 3,HG.out.drewN 3⟩
 ·rw[if_neg hp,if_neg hp]
  have j1:¬ (pos:Int)<(plan.length:Int):=by omega
  have j3:¬ 9223372036854775807<got.size+s.size:=by omega
  have HB:=hide (hb.setCell_same 0 (.string (got++s)))
  have HG:=hide ((World.grownBy.refl w (some b)).setCell 0 (.string (got++s)))
  clear hb hg hs hps hp
  go_enter Tryz.func83,Tryz.ntmps83
  go_wp2
  go_region
  go_wp2
  go_region
  go_wp2
  refine bodyPost_ret (results_tmp2 rfl _ _ _) rfl ?_
  exact ⟨rfl,HB.out.drewN 2,HG.out.drewN 2⟩
set_option maxHeartbeats 1600000 in
theorem wrapsIn_any (z:Nat) (w:World):
  Calls Tryz.prog 62 #[.int .i64 (z:Nat)] w fun e w'=>e = .returned (.int .i64 ((Hd.wraps z:Nat):Int))∧∃ m,w'=w.drewN m:=by
 obtain ⟨R,hR⟩:∃ R:Nat,Hd.wraps z=R:=⟨_,rfl⟩
 rw[hR]
 unfold Hd.wraps at hR
 have HRR:=hide hR
 clear hR
 go_enter Tryz.func62,Tryz.ntmps62
 go_wp2
 go_loopw [3] (fun i wr=>∃ j m:Nat,1≤j∧j≤4∧i = .int .i64 (j:Nat)∧(1<j→z≠134)∧(2<j→z≠209)∧(3<j→z≠284)∧wr=w.drewN m) (fun i _=>4-(intOf i).toNat)
 case atStart=>exact ⟨1,0,by omega,by omega,rfl,by omega,by omega,by omega,rfl⟩
 case round=>
  obtain ⟨j,m,hj1,hj4,rfl,h1,h2,h3,rfl⟩:=hrel
  have hj:j=1∨j=2∨j=3∨j=4:=by omega
  rcases hj with rfl | rfl | rfl | rfl
  ·by_cases hz1:z=134
   ·have hr:=HRR.out
    rw[if_pos hz1] at hr
    subst hr
    have y1:((z:Int)==134)=true:=by rw[beq_iff_eq];omega
    clear hz1 h1 h2 h3
    go_wp2
    go_ret
    exact ⟨rfl,m,rfl⟩
   ·have y1:((z:Int)==134)=false:=beq_eq_false_iff_ne.2 (by omega)
    have HZ:=hide hz1
    clear hz1 h1 h2 h3
    go_wp2
    go_roundw
    case rel=>exact ⟨2,m,by omega,by omega,rfl,fun _=>HZ.out,by omega,by omega,rfl⟩
    case measure=>simp[intOf]
  ·by_cases hz2:z=209
   ·have hr:=HRR.out
    have:=h1 (by omega)
    rw[if_neg this,if_pos hz2] at hr
    subst hr
    have y1:((z:Int)==209)=true:=by rw[beq_iff_eq];omega
    clear this hz2 h1 h2 h3
    go_wp2
    go_ret
    exact ⟨rfl,m,rfl⟩
   ·have y1:((z:Int)==209)=false:=beq_eq_false_iff_ne.2 (by omega)
    have HZ:=hide (And.intro (h1 (by omega)) hz2)
    clear hz2 h1 h2 h3
    go_wp2
    go_roundw
    case rel=>exact ⟨3,m,by omega,by omega,rfl,fun _=>HZ.out.1,fun _=>HZ.out.2,by omega,rfl⟩
    case measure=>simp[intOf]
  ·by_cases hz3:z=284
   ·have hr:=HRR.out
    have t1:=h1 (by omega)
    have t2:=h2 (by omega)
    rw[if_neg t1,if_neg t2,if_pos hz3] at hr
    subst hr
    have y1:((z:Int)==284)=true:=by rw[beq_iff_eq];omega
    clear t1 t2 hz3 h1 h2 h3
    go_wp2
    go_ret
    exact ⟨rfl,m,rfl⟩
   ·have y1:((z:Int)==284)=false:=beq_eq_false_iff_ne.2 (by omega)
    have HZ:=hide (And.intro (h1 (by omega)) (And.intro (h2 (by omega)) hz3))
    clear hz3 h1 h2 h3
    go_wp2
    go_roundw
    case rel=>exact ⟨4,m,by omega,by omega,rfl,fun _=>HZ.out.1,fun _=>HZ.out.2.1,fun _=>HZ.out.2.2,rfl⟩
    case measure=>simp[intOf]
  ·have hr:=HRR.out
   rw[if_neg (h1 (by omega)),if_neg (h2 (by omega)),if_neg (h3 (by omega))] at hr
   subst hr
   clear h1 h2 h3
   go_wp2
   go_ret
   exact ⟨rfl,m,rfl⟩
def Hd.rwAns (l:ByteArray):ByteArray × ByteArray × Int:=
 if Hd.err (Hd.wS l)≠0 then (⟨#[]⟩,⟨#[]⟩,Hd.err (Hd.wS l)) else if Hd.err (Hd.wB l)≠0 then (⟨#[]⟩,⟨#[]⟩,Hd.err (Hd.wB l)) else (Hd.byT (Hd.wS l),Hd.byT (Hd.wB l),0)
set_option maxHeartbeats 1600000 in
theorem readWrap_any (l:ByteArray) (w:World) (hl:l.size=75):
  Calls Tryz.prog 63 #[.string l] w fun e w'=>e = .returned (.tuple #[.string (Hd.rwAns l).1,.string (Hd.rwAns l).2.1,.int .i64 (Hd.rwAns l).2.2])∧Below w.heap.size w w':=by
 have H1:=hide (fun w=>pDecode_any (l.extract 8 30) w (by rw[ByteArray.size_extract];omega))
 have H2:=hide (fun w=>pDecode_any (l.extract 31 74) w (by rw[ByteArray.size_extract];omega))
 obtain ⟨ans,hans⟩:∃ a,Hd.rwAns l=a:=⟨_,rfl⟩
 rw[hans]
 unfold Hd.rwAns at hans
 have b1:(⟨(B64.decAns (l.extract 8 30).data.toList).1.toArray⟩:ByteArray)=Hd.byT (Hd.wS l):=rfl
 have b2:(⟨(B64.decAns (l.extract 31 74).data.toList).1.toArray⟩:ByteArray)=Hd.byT (Hd.wB l):=rfl
 have b3:(B64.decAns (l.extract 8 30).data.toList).2=Hd.err (Hd.wS l):=rfl
 have b4:(B64.decAns (l.extract 31 74).data.toList).2=Hd.err (Hd.wB l):=rfl
 rw[b1,b3] at H1
 rw[b2,b4] at H2
 generalize Hd.byT (Hd.wS l)=t1 at *
 generalize Hd.byT (Hd.wB l)=t2 at *
 generalize Hd.err (Hd.wS l)=e1 at *
 generalize Hd.err (Hd.wB l)=e2 at *
 have j1:30≤l.size:=by omega
 have j2:74≤l.size:=by omega
 have i1:(30:Int)≤(l.size:Int):=by omega
 have i2:(74:Int)≤(l.size:Int):=by omega
 have HANS:=hide hans
 clear b1 b2 b3 b4 hl hans
 go_enter Tryz.func63,Tryz.ntmps63
 go_wp2_with fail
 refine (H1.out _).mono ?_
 rintro e w1 ⟨rfl,hb1⟩
 have B1:=hide hb1
 clear hb1 H1
 by_cases h1:e1=0
 ·subst h1
  go_wp2_with fail
  refine (H2.out _).mono ?_
  rintro e w2 ⟨rfl,hb2⟩
  have B2:=hide (B1.out.trans (hb2.mono B1.out.size))
  clear hb2 H2 B1
  by_cases h2:e2=0
  ·subst h2
   have ha:=HANS.out
   rw[if_neg (by simp),if_neg (by simp)] at ha
   subst ha
   clear HANS
   go_wp2
   refine bodyPost_ret (results_tmp3 rfl _ _ _) rfl ?_
   exact ⟨rfl,B2.out⟩
  ·have z2:(e2 != 0)=true:=by rw[bne_iff_ne];exact h2
   have ha:=HANS.out
   rw[if_neg (by simp),if_pos h2] at ha
   subst ha
   clear HANS h2
   go_wp2
   refine bodyPost_ret (results_tmp3 rfl _ _ _) rfl ?_
   exact ⟨rfl,B2.out⟩
 ·have z1:(e1 != 0)=true:=by rw[bne_iff_ne];exact h1
  have ha:=HANS.out
  rw[if_pos h1] at ha
  subst ha
  clear HANS h1
  go_wp2
  refine bodyPost_ret (results_tmp3 rfl _ _ _) rfl ?_
  exact ⟨rfl,B1.out⟩
theorem Row.after {w w':World} {base:Nat} {e:TypeId} {size:Nat} {v:Value} {n:Nat} {xs:List Value} (h:Row w base e size v n xs) (hb:Below w.heap.size w w'):Row w' base e size v n xs:=by
 refine ⟨h.1,?_⟩
 rcases h.2 with hn | ⟨g,cap,cur,rfl,hg,hB,r⟩
 ·exact .inl hn
 ·exact .inr ⟨g,cap,cur,rfl,hg,hB.below hb hB.lt,r⟩
theorem infoHd:(Tryz.prog.info? 70).map (·.size)=some 3:=by kernel_rfl
theorem ret_hd {fn:Func} (hf:fn.results = #[.cell 2 70,.tmp 3]) (tmps:Array Value) (w:World) (b:Nat) (vs vb:Value) (mac:ByteArray) (hp:tmps.getD 2 undef = .pointer (some ⟨b,0,none⟩)) (hB:Blk w b 70 [vs,vb,.string mac]):
  (results fn tmps).run Tryz.prog w = .ok (.tuple #[.agg #[vs,vb,.string mac],tmps.getD 3 undef]) w:=by
 rw[results_cell_tmp hf,hp]
 simp only[asAddr,Result.andThen,Sem.run_pure]
 rw[run_loadVar_row w b 70 70 #[vs,vb,.string mac] _ _ hB Tryz.underlying70 rfl infoHd]
def nilHd:List Value:=[.slice none 0 0,.slice none 0 0,.string ⟨#[]⟩]
structure PS (w0:World) (v1 v2:Value) (l1 l2:List ByteArray) (w:World):Prop where
 r1:Row w (w0.heap.size+1) 9 1 v1 l1.length (strV l1)
 r2:Row w (w0.heap.size+1) 9 1 v2 l2.length (strV l2)
 ne:∀ g,v1.ownBlock=some g→v2.ownBlock≠some g
 hb:Blk w w0.heap.size 70 nilHd
 be:Below w0.heap.size w0 w
section
variable {w0 w w':World} {v1 v2:Value} {l1 l2:List ByteArray}
theorem PS.after (h:PS w0 v1 v2 l1 l2 w) (hb:Below w.heap.size w w'):PS w0 v1 v2 l1 l2 w':=
 ⟨Row.after h.r1 hb,Row.after h.r2 hb,h.ne,h.hb.below hb h.hb.lt,h.be.trans (hb.mono h.be.size)⟩
theorem PS.sz (h:PS w0 v1 v2 l1 l2 w):w0.heap.size+1≤w.heap.size:=h.hb.lt
theorem PS.add1 (h:PS w0 v1 v2 l1 l2 w) (y:ByteArray) {o:Obj} {v':Value} (hr:Row w' (w0.heap.size+1) 9 1 v' (l1.length+1) (strV (l1++[y]))) (hg:(w.alloc o).grownBy w' v1.ownBlock) (hat:v'.ownBlock=v1.ownBlock∨∃ g,v'.ownBlock=some g∧(w.alloc o).heap.size≤g):PS w0 v' v2 (l1++[y]) l2 w':=by
 have hne2:v2.ownBlock=none∨v2.ownBlock≠v1.ownBlock:=by
  cases h2:v2.ownBlock with
  | none=>exact .inl rfl
  | some g=>exact .inr fun e=>h.ne g e.symm h2
 have hlt1:some w0.heap.size≠v1.ownBlock:=fun e=>by
  have:=(h.r1.lt _ e.symm).1
  omega
 refine ⟨by rw[List.length_append];exact hr,(h.r2.alloc o).kept hg hne2,?_,(h.hb.alloc o).grown hg hlt1,Below.grown (h.be.alloc (by have:=h.sz;omega) o) hg (by have:=h.sz;simp;omega) (fun k hk=>by have:=(h.r1.lt k hk).1;omega)⟩
 intro g hv' hv2
 rcases hat with e | ⟨g',e,hge⟩
 ·exact h.ne g (by rw[←e];exact hv') hv2
 ·rw[e] at hv'
  injection hv' with hv'
  have:=(h.r2.lt g hv2).2
  rw[World.size_alloc] at hge
  omega
theorem PS.add2 (h:PS w0 v1 v2 l1 l2 w) (y:ByteArray) {o:Obj} {v':Value} (hr:Row w' (w0.heap.size+1) 9 1 v' (l2.length+1) (strV (l2++[y]))) (hg:(w.alloc o).grownBy w' v2.ownBlock) (hat:v'.ownBlock=v2.ownBlock∨∃ g,v'.ownBlock=some g∧(w.alloc o).heap.size≤g):PS w0 v1 v' l1 (l2++[y]) w':=by
 have hne1:v1.ownBlock=none∨v1.ownBlock≠v2.ownBlock:=by
  cases h1:v1.ownBlock with
  | none=>exact .inl rfl
  | some g=>exact .inr fun e=>h.ne g h1 e.symm
 have hlt2:some w0.heap.size≠v2.ownBlock:=fun e=>by
  have:=(h.r2.lt _ e.symm).1
  omega
 refine ⟨(h.r1.alloc o).kept hg hne1,by rw[List.length_append];exact hr,?_,(h.hb.alloc o).grown hg hlt2,Below.grown (h.be.alloc (by have:=h.sz;omega) o) hg (by have:=h.sz;simp;omega) (fun k hk=>by have:=(h.r2.lt k hk).1;omega)⟩
 intro g hv1 hv'
 rcases hat with e | ⟨g',e,hge⟩
 ·exact h.ne g hv1 (by rw[←e];exact hv')
 ·rw[e] at hv'
  injection hv' with hv'
  have:=(h.r1.lt g hv1).2
  rw[World.size_alloc] at hge
  omega
end
theorem blk_at (w:World) (o:Obj) (n:Nat) (h:w.heap.size=n):(w.alloc o).heap[n]? = some o:=by rw[←h];exact heap_alloc_new w o
theorem nilHd_one:(#[.slice none 0 0,.slice none 0 0,.string ⟨#[]⟩]:Array Value).all (·.oneCell')=true:=by simp[Value.oneCell']
set_option maxRecDepth 100000 in
set_option maxHeartbeats 3200000 in
theorem pParse_any (t:ByteArray) (w:World) (ht:t.size≤1000000000):
  Calls Tryz.prog 31 #[.string t] w fun e w'=>∃ vs vb,e = .returned (.tuple #[.agg #[vs,vb,.string (Hd.parAns t).1.mac],.int .i64 (Hd.parAns t).2]) ∧
   Row w' w.heap.size 9 1 vs (Hd.parAns t).1.ss.length (strV (Hd.parAns t).1.ss)∧Row w' w.heap.size 9 1 vb (Hd.parAns t).1.bs.length (strV (Hd.parAns t).1.bs)∧Below w.heap.size w w':=by
 have HWI:=hide (fun w=>wrapsIn_any t.size w)
 have HP0:=hide (fun h=>Hd.parse_no (t:=t) h)
 have HPL:=hide (fun i hi h=>Hd.parse_line (t:=t) (i:=i) hi h)
 have HPM:=hide (fun h=>Hd.parse_mac (t:=t) (n:=Hd.wraps t.size) rfl h)
 have HPO:=hide (fun h=>Hd.parse_ok (t:=t) (ss:=Hd.sals t (Hd.wraps t.size)) (bs:=Hd.bods t (Hd.wraps t.size)) (m:=Hd.byT (Hd.wM t (Hd.wraps t.size))) h)
 have HPB:=hide (fun h=>Hd.parse_bad (t:=t) (n:=Hd.wraps t.size) rfl h)
 have hws:=@Hd.wraps_size t.size
 generalize Hd.parAns t=ans at *
 generalize Hd.wraps t.size=n at *
 have hbA:Below w.heap.size w (w.alloc (.cells #[.slice none 0 0,.slice none 0 0,.string ⟨#[]⟩] 70)):=(Below.refl _ _).alloc (Nat.le_refl _) _
 have hBlk:Blk (w.alloc (.cells #[.slice none 0 0,.slice none 0 0,.string ⟨#[]⟩] 70)) w.heap.size 70 nilHd:=Blk.new rfl rfl
 have HBA:=hide hbA
 have HBK:=hide hBlk
 clear hbA hBlk
 go_enter Tryz.func31,Tryz.ntmps31
 go_wp2_with fail
 refine (HWI.out _).mono ?_
 rintro e w1 ⟨rfl,m1,rfl⟩
 clear HWI
 by_cases hn0:n=0
 ·have ha:=HP0.out hn0
  subst ha
  have z0:((n:Int)==0)=true:=by rw[beq_iff_eq];omega
  clear HP0 HPL HPM HPO HPB hn0 hws
  go_wp2_with (refine wpList_store_blk rfl 70 (.tmp 2) (.tmp 21) rfl w.heap.size 0 #[.slice none 0 0,.slice none 0 0,.string ⟨#[]⟩] rfl rfl infoHd nilHd_one 70 nilHd (HBK.out.drewN m1) (Nat.le_refl 3) ?_;intro wz hBz hGz)
  have hBz2:Blk wz w.heap.size 70 nilHd:=hBz
  refine bodyPost_ret (ret_hd rfl _ _ w.heap.size _ _ _ rfl hBz2) rfl ?_
  exact ⟨_,_,rfl,Row.nil _ _ _ _,Row.nil _ _ _ _,(below_drewN HBA.out m1).trans (RowKit.Below.of_grown hGz (Nat.le_refl _) (below_drewN HBA.out m1).size)⟩
 ·obtain ⟨hsz,hn3⟩:=hws hn0
  have z0:((n:Int)==0)=false:=beq_eq_false_iff_ne.2 (by omega)
  have HSZ:=hide hsz
  have HPS:=hide (show PS w (.slice (some ⟨w.heap.size+1,0,none⟩) 0 0) (.slice (some ⟨w.heap.size+1+1,0,none⟩) 0 0) [] [] ((((w.alloc (.cells #[.slice none 0 0,.slice none 0 0,.string ⟨#[]⟩] 70)).drewN m1).alloc (.cells #[] 9)).alloc (.cells #[] 9)) from
   ⟨(Row.empty _ _ (blk_at _ _ _ (by simp)) _ (Nat.le_refl _):Row _ (w.heap.size+1) 9 1 _ 0 []).alloc _,Row.empty _ _ (blk_at _ _ _ (by simp)) _ (Nat.le_succ _),fun g h1 h2=>by simp[Value.ownBlock] at h1 h2;omega,((HBK.out.drewN m1).alloc _).alloc _,((below_drewN HBA.out m1).alloc (below_drewN HBA.out m1).size _).alloc (by simp;omega) _⟩)
  clear HP0 hn0 hws hsz
  go_wp2
  clear z0
  go_loopw [5,6,7,8] (fun v1 v2 va vi wr=>∃ k:Nat,k≤n∧vi = .int .i64 (k:Nat)∧va = .int .i64 ((11+75*k:Nat):Int)∧PS w v1 v2 (Hd.sals t k) (Hd.bods t k) wr) (fun _ _ _ i _=>n-(intOf i).toNat)
  case atStart=>exact ⟨0,Nat.zero_le _,rfl,rfl,HPS.out⟩
  case round=>
   clear HPS HBA HBK
   obtain ⟨k,hk,rfl,rfl,hP⟩:=hrel
   have hPz:=hP.sz
   have HPP:=hide hP
   have hl1:=Hd.sals_len t k
   have hl2:=Hd.bods_len t k
   obtain ⟨A,hA⟩:∃ A:Nat,11+75*k=A:=⟨_,rfl⟩
   have hs1:=Hd.sals_succ t k
   have hs2:=Hd.bods_succ t k
   rw[hA]
   have hsz:=HSZ.out
   by_cases hlt:k<n
   ·have jk:(k:Int)<(n:Int):=by omega
    have hrl:(Hd.lineOf t k).size=75:=by unfold Hd.lineOf;rw[ByteArray.size_extract];omega
    have HRW:=hide (fun w=>readWrap_any (Hd.lineOf t k) w hrl)
    have hle:t.extract A (A+75)=Hd.lineOf t k:=by unfold Hd.lineOf;rw[hA]
    obtain ⟨A2,hA2⟩:∃ A2:Nat,A+75=A2:=⟨_,rfl⟩
    have a1:IntKind.i64.wrap ((A:Int)+75)=(A2:Int):=(IntWalk.i64_in _ (by omega)).trans (by omega)
    have a2:(A:Int)+75=(A2:Int):=by omega
    have a3:(A:Int)≤(A2:Int):=by omega
    have a4:(A2:Int)≤(t.size:Int):=by omega
    have a5:A2≤t.size:=by omega
    rw[hA2] at hle
    have HA3:=hide (show A2=11+75*(k+1) by omega)
    have hpl:=HPL.out k hlt
    have HLT:=hide hlt
    have hrw:Hd.rwAns (Hd.lineOf t k)=if Hd.err (Hd.wS (Hd.lineOf t k))≠0 then (⟨#[]⟩,⟨#[]⟩,Hd.err (Hd.wS (Hd.lineOf t k))) else if Hd.err (Hd.wB (Hd.lineOf t k))≠0 then (⟨#[]⟩,⟨#[]⟩,Hd.err (Hd.wB (Hd.lineOf t k))) else (Hd.byT (Hd.wS (Hd.lineOf t k)),Hd.byT (Hd.wB (Hd.lineOf t k)),0):=rfl
    generalize Hd.rwAns (Hd.lineOf t k)=RA at *
    generalize Hd.lineOf t k=ln at *
    generalize Hd.sals t k=l1 at *
    generalize Hd.bods t k=l2 at *
    generalize Hd.byT (Hd.wS ln)=y1 at *
    generalize Hd.byT (Hd.wB ln)=y2 at *
    generalize Hd.err (Hd.wS ln)=e1 at *
    generalize Hd.err (Hd.wB ln)=e2 at *
    have HS1:=hide hs1
    have HS2:=hide hs2
    have HL1:=hide hl1
    have HL2:=hide hl2
    have HPL2:=hide hpl
    clear hrl hA hA2 hs1 hs2 hl1 hl2 hsz hlt hpl hP hk
    by_cases h1:e1≠0
    ·rw[if_pos h1] at hrw
     subst hrw
     have z1:(e1 != 0)=true:=by rw[bne_iff_ne];exact h1
     have HBD:=hide (show e1≠0∨e2≠0 from .inl h1)
     clear h1
     have ha:=HPL2.out HBD.out
     subst ha
     clear HPL2 HBD HPM HPO HPB HPL
     go_wp2_with fail
     refine (HRW.out _).mono ?_
     rintro e w2 ⟨rfl,hb2⟩
     have P2:=hide (HPP.out.after hb2)
     clear hb2 HRW HPP hPz
     go_wp2_with (refine wpList_store_blk rfl 70 (.tmp 2) (.tmp 41) rfl w.heap.size 0 #[.slice none 0 0,.slice none 0 0,.string ⟨#[]⟩] rfl rfl infoHd nilHd_one 70 nilHd P2.out.hb (Nat.le_refl 3) ?_;intro wz hBz hGz)
     have hBz2:Blk wz w.heap.size 70 nilHd:=hBz
     refine bodyPost_ret (ret_hd rfl _ _ w.heap.size _ _ _ rfl hBz2) rfl ?_
     exact ⟨_,_,rfl,Row.nil _ _ _ _,Row.nil _ _ _ _,P2.out.be.trans (RowKit.Below.of_grown hGz (Nat.le_refl _) P2.out.be.size)⟩
    ·rw[if_neg h1] at hrw
     by_cases h2:e2≠0
     ·rw[if_pos h2] at hrw
      subst hrw
      have z1:(e2 != 0)=true:=by rw[bne_iff_ne];exact h2
      have HBD:=hide (show e1≠0∨e2≠0 from .inr h2)
      clear h1 h2
      have ha:=HPL2.out HBD.out
      subst ha
      clear HPL2 HBD HPM HPO HPB HPL
      go_wp2_with fail
      refine (HRW.out _).mono ?_
      rintro e w2 ⟨rfl,hb2⟩
      have P2:=hide (HPP.out.after hb2)
      clear hb2 HRW HPP hPz
      go_wp2_with (refine wpList_store_blk rfl 70 (.tmp 2) (.tmp 41) rfl w.heap.size 0 #[.slice none 0 0,.slice none 0 0,.string ⟨#[]⟩] rfl rfl infoHd nilHd_one 70 nilHd P2.out.hb (Nat.le_refl 3) ?_;intro wz hBz hGz)
      have hBz2:Blk wz w.heap.size 70 nilHd:=hBz
      refine bodyPost_ret (ret_hd rfl _ _ w.heap.size _ _ _ rfl hBz2) rfl ?_
      exact ⟨_,_,rfl,Row.nil _ _ _ _,Row.nil _ _ _ _,P2.out.be.trans (RowKit.Below.of_grown hGz (Nat.le_refl _) P2.out.be.size)⟩
     ·rw[if_neg h2] at hrw
      subst hrw
      clear h1 h2
      go_wp2_with fail
      refine (HRW.out _).mono ?_
      rintro e w2 ⟨rfl,hb2⟩
      have P2:=hide (HPP.out.after hb2)
      clear hb2 HRW HPP hPz
      have hP2z:=P2.out.sz
      have hl1:=HL1.out
      have hl2:=HL2.out
      have hb1:l1.length≤1099511627:=by omega
      have hb2:l2.length≤1099511627:=by omega
      clear hl1 hl2
      obtain ⟨o1,c1,rfl,d1,d2⟩:=Row.anyN P2.out.r1
      obtain ⟨o2,c2,rfl,d3,d4⟩:=Row.anyN P2.out.r2
      unfold maxLen at d2 d4
      go_wp2_with (first | (at_builtin;refine wpList_append_strB rfl (.tmp 42) (.tmp 44) rfl (w.heap.size+1) _ l1.length l1 rfl (P2.out.r1.alloc _) w2.heap.size _ rfl (World.cell?_alloc_at _ _ _ _ rfl) ?_ ?_ ?_;omega;(simp;omega);intro v3 w3 hr3 hg3 hat3) | (at_builtin;refine Hid.out ?_))
      refine hide ?_
      have P3:=hide (P2.out.add1 y1 hr3 hg3 hat3)
      have hP3z:=P3.out.sz
      clear hr3 hg3 hat3 P2 hP2z
      obtain ⟨o3,c3,rfl,d5,d6⟩:=Row.anyN P3.out.r1
      unfold maxLen at d6
      go_wp2_with (at_builtin;refine wpList_append_strB rfl (.tmp 46) (.tmp 48) rfl (w.heap.size+1) _ l2.length l2 rfl (P3.out.r2.alloc _) w3.heap.size _ rfl (World.cell?_alloc_at _ _ _ _ rfl) ?_ ?_ ?_;omega;(simp;omega);intro v4 w4 hr4 hg4 hat4)
      have P4:=hide (P3.out.add2 y2 hr4 hg4 hat4)
      go_roundw
      case rel=>
       have:=HLT.out
       refine ⟨k+1,by omega,by go_num,by rw[HA3.out],?_⟩
       rw[HS1.out,HS2.out]
       have h9:=P4.out
       rw[List.length_append] at h9
       exact h9
      case measure=>have:=HLT.out;simp[intOf];omega
   ·obtain rfl:k=n:=by omega
    have jk:¬ ((k:Int)<(k:Int)):=by omega
    have hl47:t.extract (A+4) (A+47)=Hd.wM t k:=by unfold Hd.wM;rw[hA]
    have HDC:=hide (fun w=>pDecode_any (Hd.wM t k) w (by unfold Hd.wM;rw[ByteArray.size_extract];omega))
    have he1:(⟨(B64.decAns (Hd.wM t k).data.toList).1.toArray⟩:ByteArray)=Hd.byT (Hd.wM t k):=rfl
    have he2:(B64.decAns (Hd.wM t k).data.toList).2=Hd.err (Hd.wM t k):=rfl
    rw[he1,he2] at HDC
    obtain ⟨A2,hA2⟩:∃ A2:Nat,A+4=A2:=⟨_,rfl⟩
    obtain ⟨A3,hA3⟩:∃ A3:Nat,A+47=A3:=⟨_,rfl⟩
    rw[hA2,hA3] at hl47
    have a1:IntKind.i64.wrap ((A:Int)+4)=(A2:Int):=(IntWalk.i64_in _ (by omega)).trans (by omega)
    have a2:(A:Int)+4=(A2:Int):=by omega
    have a3:IntKind.i64.wrap ((A2:Int)+43)=(A3:Int):=(IntWalk.i64_in _ (by omega)).trans (by omega)
    have a4:(A2:Int)+43=(A3:Int):=by omega
    have a5:(A2:Int)≤(A3:Int):=by omega
    have a6:(A3:Int)≤(t.size:Int):=by omega
    have a7:A3≤t.size:=by omega
    have HPR:=hide (fun (mac:ByteArray) (w':World) v1 v2 (h1:Strs w' v1 (Hd.sals t k)) (h2:Strs w' v2 (Hd.bods t k))=>pPrint_any v1 v2 mac (Hd.sals t k) (Hd.bods t k) w' h1 h2 (by omega) (by omega))
    generalize Hd.err (Hd.wM t k)=em at *
    generalize Hd.byT (Hd.wM t k)=ym at *
    generalize Hd.wM t k=tm at *
    generalize Hd.sals t k=l1 at *
    generalize Hd.bods t k=l2 at *
    have HL1:=hide hl1
    have HL2:=hide hl2
    clear he1 he2 hA hA2 hA3 hs1 hs2 hsz hlt hP hk hl1 hl2
    by_cases hm:em≠0
    ·have ha:=HPM.out hm
     subst ha
     have z1:(em != 0)=true:=by rw[bne_iff_ne];exact hm
     clear hm HPL HPM HPO HPB
     go_wp2_with fail
     refine (HDC.out _).mono ?_
     rintro e w2 ⟨rfl,hb2⟩
     have P2:=hide (HPP.out.after hb2)
     clear hb2 HDC HPP hPz
     go_wp2_with (refine wpList_store_blk rfl 70 (.tmp 2) (.tmp 65) rfl w.heap.size 0 #[.slice none 0 0,.slice none 0 0,.string ⟨#[]⟩] rfl rfl infoHd nilHd_one 70 nilHd P2.out.hb (Nat.le_refl 3) ?_;intro wz hBz hGz)
     have hBz2:Blk wz w.heap.size 70 nilHd:=hBz
     refine bodyPost_ret (ret_hd rfl _ _ w.heap.size _ _ _ rfl hBz2) rfl ?_
     exact ⟨_,_,rfl,Row.nil _ _ _ _,Row.nil _ _ _ _,P2.out.be.trans (RowKit.Below.of_grown hGz (Nat.le_refl _) P2.out.be.size)⟩
    ·obtain rfl:em=0:=by simpa using hm
     clear hm HPM HPL
     go_wp2_with fail
     refine (HDC.out _).mono ?_
     rintro e w2 ⟨rfl,hb2⟩
     have P2:=hide (HPP.out.after hb2)
     clear hb2 HDC HPP hPz
     have hP2z:=P2.out.sz
     obtain ⟨o1,c1,rfl,d1,d2⟩:=Row.anyN P2.out.r1
     obtain ⟨o2,c2,rfl,d3,d4⟩:=Row.anyN P2.out.r2
     unfold maxLen at d2 d4
     have hb3:Below w2.heap.size w2 (w2.alloc (.cells #[.slice o1 l1.length c1,.slice o2 l2.length c2,.string ym] 70)):=(Below.refl _ _).alloc (Nat.le_refl _) _
     have P3:=hide (P2.out.after hb3)
     have HB3:=hide (show Blk (w2.alloc (.cells #[.slice o1 l1.length c1,.slice o2 l2.length c2,.string ym] 70)) w2.heap.size 70 [.slice o1 l1.length c1,.slice o2 l2.length c2,.string ym] from Blk.new rfl rfl)
     have HPR1:=hide (HPR.out ym _ _ _ (Row.strs P3.out.r1) (Row.strs P3.out.r2))
     have hone:(#[.slice o1 l1.length c1,.slice o2 l2.length c2,.string ym]:Array Value).all (·.oneCell')=true:=by simp[Value.oneCell']
     have HONE:=hide hone
     clear hb3 P2 HPR hone
     go_wp2_with fail
     refine HPR1.out.mono ?_
     rintro e w4 ⟨rfl,hb4⟩
     have P4:=hide (P3.out.after hb4)
     have HB4:=hide (HB3.out.below hb4 HB3.out.lt)
     clear hb4 P3 HB3 HPR1
     have c0:=HB4.out.cell (i:=0) rfl
     have c1':=HB4.out.cell (i:=1) rfl
     have c2':=HB4.out.cell (i:=2) rfl
     obtain ⟨pt,hpt⟩:∃ p,Hd.prAns l1 l2 ym=p:=⟨_,rfl⟩
     rw[hpt] at HPO HPB ⊢
     clear hpt
     by_cases hok:pt=(t.data.toList,0)
     ·have ha:=HPO.out hok
      subst ha
      subst hok
      have htt:(⟨t.data.toList.toArray⟩:ByteArray)=t:=ba_ext rfl
      rw[htt]
      clear htt HPO HPB
      go_wp2_with (refine wpList_store_blk rfl 70 (.tmp 2) (.tmp 83) rfl w.heap.size 0 #[.slice o1 l1.length c1,.slice o2 l2.length c2,.string ym] rfl rfl infoHd HONE.out 70 nilHd P4.out.hb (Nat.le_refl 3) ?_;intro wz hBz hGz)
      have hBz2:Blk wz w.heap.size 70 [.slice o1 l1.length c1,.slice o2 l2.length c2,.string ym]:=hBz
      refine bodyPost_ret (ret_hd rfl _ _ w.heap.size _ _ _ rfl hBz2) rfl ?_
      have k1:∀ (v:Value) (l:List ByteArray),Row w4 (w.heap.size+1) 9 1 v l.length (strV l)→Row wz w.heap.size 9 1 v l.length (strV l):=by
       intro v l h
       refine (h.kept hGz ?_).mono (Nat.le_succ _)
       cases hv:v.ownBlock with
       | none=>exact .inl rfl
       | some g=>
        refine .inr fun e=>?_
        injection e with e
        have:=(h.lt g hv).1
        omega
      exact ⟨_,_,rfl,k1 _ _ P4.out.r1,k1 _ _ P4.out.r2,P4.out.be.trans (RowKit.Below.of_grown hGz (Nat.le_refl _) P4.out.be.size)⟩
     ·have ha:=HPB.out hok
      subst ha
      obtain ⟨pl,pe⟩:=pt
      by_cases hpe:pe=0
      ·subst hpe
       have z2:((⟨pl.toArray⟩:ByteArray).toList==t.toList)=false:=by
        rw[beq_eq_false_iff_ne,ByteArray.toList_eq,ByteArray.toList_eq]
        exact fun e=>hok (by rw[←e])
       generalize (⟨pl.toArray⟩:ByteArray)=pa at *
       clear hok HPO HPB
       go_wp2_with (refine wpList_store_blk rfl 70 (.tmp 2) (.tmp 82) rfl w.heap.size 0 #[.slice none 0 0,.slice none 0 0,.string ⟨#[]⟩] rfl rfl infoHd nilHd_one 70 nilHd P4.out.hb (Nat.le_refl 3) ?_;intro wz hBz hGz)
       have hBz2:Blk wz w.heap.size 70 nilHd:=hBz
       refine bodyPost_ret (ret_hd rfl _ _ w.heap.size _ _ _ rfl hBz2) rfl ?_
       exact ⟨_,_,rfl,Row.nil _ _ _ _,Row.nil _ _ _ _,P4.out.be.trans (RowKit.Below.of_grown hGz (Nat.le_refl _) P4.out.be.size)⟩
      ·have z2:(pe != 0)=true:=by rw[bne_iff_ne];exact hpe
       generalize (⟨pl.toArray⟩:ByteArray)=pa at *
       clear hok HPO HPB hpe
       go_wp2_with (refine wpList_store_blk rfl 70 (.tmp 2) (.tmp 82) rfl w.heap.size 0 #[.slice none 0 0,.slice none 0 0,.string ⟨#[]⟩] rfl rfl infoHd nilHd_one 70 nilHd P4.out.hb (Nat.le_refl 3) ?_;intro wz hBz hGz)
       have hBz2:Blk wz w.heap.size 70 nilHd:=hBz
       refine bodyPost_ret (ret_hd rfl _ _ w.heap.size _ _ _ rfl hBz2) rfl ?_
       exact ⟨_,_,rfl,Row.nil _ _ _ _,Row.nil _ _ _ _,P4.out.be.trans (RowKit.Below.of_grown hGz (Nat.le_refl _) P4.out.be.size)⟩
theorem grown_trans {w w1 w2:World} {b:Nat} {row:Option Nat} (h1:w.grownBy w1 (some b)) (h2:w1.grownBy w2 row) (hr:∀ k,row=some k→w.heap.size≤k∨k=b):w.grownBy w2 (some b):=
 ⟨h2.os.trans h1.os,h2.tape.trans h1.tape,h2.output.trans h1.output,Nat.le_trans h1.size h2.size,fun k hk hne=>(h2.block k (Nat.lt_of_lt_of_le hk h1.size) (fun e=>by
  rcases hr k e.symm with h | h
  ·omega
  ·exact hne (by rw[h]))).trans (h1.block k hk hne)⟩
theorem grown_below {w w1 w2:World} {b:Nat} (h1:w.grownBy w1 (some b)) (h2:Below w1.heap.size w1 w2):w.grownBy w2 (some b):=
 ⟨h2.os.trans h1.os,h2.tape.trans h1.tape,h2.output.trans h1.output,Nat.le_trans h1.size h2.size,fun k hk hne=>(h2.block k (Nat.lt_of_lt_of_le hk h1.size)).trans (h1.block k hk hne)⟩
theorem below_grown {w w1 w2:World} {b:Nat} (h1:Below w.heap.size w w1) (h2:w1.grownBy w2 (some b)):w.grownBy w2 (some b):=
 ⟨h2.os.trans h1.os,h2.tape.trans h1.tape,h2.output.trans h1.output,Nat.le_trans h1.size h2.size,fun k hk hne=>(h2.block k (Nat.lt_of_lt_of_le hk h1.size) hne).trans (h1.block k hk)⟩
theorem Tabs.grown {w w':World} {b:Nat} (t:Tabs w) (h:w.grownBy w' (some b)) (hb:2≤b):Tabs w':=
 t.below (B:=2) ⟨h.os,h.tape,h.output,h.size,fun k hk=>h.block k (Nat.lt_of_lt_of_le hk t.two) (fun e=>by injection e with e;omega)⟩ (Nat.le_refl _)
theorem Strs.grown {w w':World} {v:Value} {l:List ByteArray} {b:Nat} (h:Strs w v l) (hg:w.grownBy w' (some b)) (hb:∀ g o n c,v = .slice (some ⟨g,o,none⟩) n c→0<l.length→g≠b):Strs w' v l:=by
 have hlt:=h.blt
 rcases h with h | ⟨g,o,c,rfl,hc⟩
 ·exact .inl h
 ·refine .inr ⟨g,o,c,rfl,fun i x hx=>?_⟩
  have hl:0<l.length:=Nat.lt_of_le_of_lt (Nat.zero_le i) (List.getElem?_eq_some_iff.1 hx).1
  have h1:=hg.block g (hlt g o _ c rfl hl) (fun e=>hb g o _ c rfl hl (by injection e))
  have h2:=hc i x hx
  unfold World.cell? at h2 ⊢
  rw[h1]
  exact h2
def cuts (s:ByteArray) (p k:Nat):List ByteArray:=(List.range k).map fun i=>s.extract (p+16*i) (p+16*i+16)
theorem cuts_succ (s:ByteArray) (p k:Nat):cuts s p (k+1)=cuts s p k++[s.extract (p+16*k) (p+16*k+16)]:=by simp[cuts,List.range_succ]
theorem cuts_len (s:ByteArray) (p k:Nat):(cuts s p k).length=k:=by simp[cuts]
def canDraw (s:ByteArray) (p n:Nat):Nat:=min n ((s.size-p)/16)
def DrawS (b:Nat) (s:ByteArray) (p n:Nat) (w:World) (e:Ending) (w':World):Prop:=∃ v,
 e = .returned (.tuple #[v,.int .i64 (if p+16*n≤s.size then 0 else 15)])∧(p+16*n≤s.size→Row w' w.heap.size 9 1 v n (strV (cuts s p n))) ∧
   Blk w' b 94 (springCells s (p+16*canDraw s p n))∧w.grownBy w' (some b)
set_option maxRecDepth 100000 in
set_option maxHeartbeats 1600000 in
theorem drawSalts_any (n b:Nat) (s:ByteArray) (p:Nat) (w:World) (hb:Blk w b 94 (springCells s p)) (hn:n≤3) (hp:p≤s.size) (hs:s.size<1125899906842624):
  Calls Tryz.prog 80 #[.int .i64 (n:Nat),.pointer (some ⟨b,0,none⟩)] w (DrawS b s p n w):=by
 have hbl:=hb.lt
 have HB0:=hide (And.intro hb (World.grownBy.refl w (some b)))
 clear hb
 go_enter Tryz.func80,Tryz.ntmps80
 go_wp2
 go_loopw [6,7] (fun v vi wr=>∃ k:Nat,k≤n∧vi = .int .i64 (k:Nat)∧p+16*k≤s.size∧Row wr w.heap.size 9 1 v k (strV (cuts s p k))∧Blk wr b 94 (springCells s (p+16*k))∧w.grownBy wr (some b)) (fun _ i _=>n-(intOf i).toNat)
 case atStart=>exact ⟨0,Nat.zero_le _,rfl,hp,Row.empty _ _ (heap_alloc_new _ _) _ (Nat.le_refl _),HB0.out.1.alloc _,grown_below HB0.out.2 ((Below.refl _ _).alloc (Nat.le_refl _) _)⟩
 case round=>
  clear HB0
  obtain ⟨k,hk,rfl,hpk,hr,hB,hg⟩:=hrel
  have hsz:=hg.size
  obtain ⟨q,hq⟩:∃ q:Nat,p+16*k=q:=⟨_,rfl⟩
  rw[hq] at hB hpk
  by_cases hlt:k<n
  ·have jk:(k:Int)<(n:Int):=by omega
   by_cases hgd:q+16≤s.size
   ·have HD:=hide (fun (w':World) (h:Blk w' b 94 (springCells s q))=>draw_good b s q w' h hs hgd)
    have HX:=hide (show cuts s p (k+1)=cuts s p k++[s.extract q (q+16)] by rw[cuts_succ,hq])
    have HQ:=hide hq
    have HR:=hide hr
    have HB:=hide hB
    have HG:=hide hg
    have HLT:=hide hlt
    have HGD:=hide hgd
    obtain ⟨ao,cap,rfl,hd1,hd2⟩:=Row.anyN hr
    unfold maxLen at hd2
    clear hr hB hg hq hlt hgd
    generalize s.extract q (q+16)=sx at *
    go_wp2_with fail
    refine (HD.out _ HB.out).mono ?_
    rintro e w2 ⟨rfl,hB2,hG2⟩
    have hne:(Value.slice ao k cap).ownBlock=none∨(Value.slice ao k cap).ownBlock≠some b:=by
     cases hv:(Value.slice ao k cap).ownBlock with
     | none=>exact .inl rfl
     | some g=>
      refine .inr fun e=>?_
      injection e with e
      have:=(HR.out.lt g hv).1
      omega
    have HR2:=hide (HR.out.kept hG2 hne)
    have HG2:=hide (grown_trans HG.out hG2 (fun k hk=>.inr (by injection hk with hk;exact hk.symm)))
    have HB2:=hide hB2
    have hsz2:=HG2.out.size
    clear hB2 hG2 hne HR HG HB HD
    go_wp2_with (at_builtin;refine wpList_append_strB rfl (.tmp 24) (.tmp 26) rfl w.heap.size _ k _ rfl (HR2.out.alloc _) w2.heap.size _ rfl (World.cell?_alloc_at _ _ _ _ rfl) ?_ ?_ ?_;omega;(simp;omega);intro v3 w3 hr3 hg3 hat3)
    have hown:∀ g,(Value.slice ao k cap).ownBlock=some g→w.heap.size≤g:=fun g hg=>(HR2.out.lt g hg).1
    go_roundw
    case rel=>
     have:=HLT.out
     have:=HGD.out
     have hq:=HQ.out
     refine ⟨k+1,by omega,by go_num,by omega,?_,?_,?_⟩
     ·rw[HX.out];exact hr3
     ·rw[show p+16*(k+1)=q+16 by omega]
      exact (HB2.out.alloc _).grown hg3 (fun e=>by have:=hown b e.symm;omega)
     ·exact grown_trans (grown_below HG2.out ((Below.refl _ _).alloc (Nat.le_refl _) _)) hg3 (fun g hg=>.inl (hown g hg))
    case measure=>have:=HLT.out;simp[intOf];omega
   ·have HD:=hide (fun (w':World) (h:Blk w' b 94 (springCells s q))=>draw_bad b s q w' h hpk hs (by omega))
    have hcd:p+16*canDraw s p n=q:=by unfold canDraw;omega
    have hif:(if p+16*n≤s.size then (0:Int) else 15)=15:=if_neg (by omega)
    have HCD:=hide hcd
    have HIF:=hide hif
    have hno:¬ p+16*n≤s.size:=by omega
    have HNO:=hide hno
    have HB:=hide hB
    have HG:=hide hg
    obtain ⟨ao,cap,rfl,hd1,hd2⟩:=Row.anyN hr
    clear hr hB hg hq hlt hgd hcd hif hno
    go_wp2_with fail
    refine (HD.out _ HB.out).mono ?_
    rintro e w2 ⟨rfl,m,rfl⟩
    clear HD
    go_wp2
    refine bodyPost_ret (results_tmp2 rfl _ _ _) rfl ?_
    exact ⟨_,by rw[HIF.out];rfl,fun h=>absurd h HNO.out,by rw[HCD.out];exact HB.out.drewN m,HG.out.drewN m⟩
  ·obtain rfl:k=n:=by omega
   have jk:¬ (k:Int)<(k:Int):=by omega
   have hcd:p+16*canDraw s p k=q:=by unfold canDraw;omega
   have hif:(if p+16*k≤s.size then (0:Int) else 15)=0:=if_pos (by omega)
   have HCD:=hide hcd
   have HIF:=hide hif
   have HR:=hide hr
   have HB:=hide hB
   have HG:=hide hg
   obtain ⟨ao,cap,rfl,hd1,hd2⟩:=Row.anyN hr
   clear hr hB hg hq hlt hcd hif
   go_wp2
   refine bodyPost_ret (results_tmp2 rfl _ _ _) rfl ?_
   exact ⟨_,by rw[HIF.out];rfl,fun _=>HR.out,by rw[HCD.out];exact HB.out,HG.out⟩
end Go.Proofs.YtoifalcpfnacnaaGreatDoor
