import Derived.Test.YtmjekklgefdolaaGreatDoorWr8
namespace Go.Proofs.YtmjekklgefdolaaGreatDoor
open Go.RowKit
namespace Hd
def text (ss bs:List ByteArray) (mac:ByteArray):List UInt8:=body ss bs++[32]++B64.enc mac.data.toList++[10]
def prAns (ss bs:List ByteArray) (mac:ByteArray):List UInt8 × Int:=
 if ss.length=0∨3<ss.length∨bs.length≠ss.length then ([],2)
 else if (∃ i,i<ss.length∧((ss.getD i ⟨#[]⟩).size≠16∨(bs.getD i ⟨#[]⟩).size≠32))∨mac.size≠32 then ([],1)
 else (text ss bs mac,0)
theorem getD_size {l:List ByteArray} {n:Nat} (h:∀ i,i<l.length→(l.getD i ⟨#[]⟩).size=n):∀ x ∈ l,x.size=n:=by
 intro x hx
 obtain ⟨i,hi,rfl⟩:=List.getElem_of_mem hx
 have:=h i hi
 rw[List.getD_eq_getElem?_getD,List.getElem?_eq_getElem hi] at this
 exact this
end Hd
set_option maxRecDepth 100000 in
set_option maxHeartbeats 3200000 in
theorem headPrint_any (vs vb:Value) (mac:ByteArray) (ss bs:List ByteArray) (w:World) (h1:Strs w vs ss) (h2:Strs w vb bs) (hn1:ss.length≤1099511627776) (hn2:bs.length≤1099511627776):
  Calls Tryz.prog 127 #[.agg #[vs,vb,.string mac]] w fun e w'=>e = .returned (.tuple #[.string ⟨(Hd.prAns ss bs mac).1.toArray⟩,.int .i64 (Hd.prAns ss bs mac).2])∧Below w.heap.size w w':=by
 obtain ⟨ao,cp,rfl⟩:=h1.len
 obtain ⟨bo,dp,rfl⟩:=h2.len
 obtain ⟨ans,hans⟩:∃ a,Hd.prAns ss bs mac=a:=⟨_,rfl⟩
 rw[hans]
 unfold Hd.prAns at hans
 have hbA:Below w.heap.size w (w.alloc (.cells #[.slice ao ss.length cp,.slice bo bs.length dp,.string mac] 155)):=(Below.refl _ _).alloc (Nat.le_refl _) _
 have hBlk:Blk (w.alloc (.cells #[.slice ao ss.length cp,.slice bo bs.length dp,.string mac] 155)) w.heap.size 155 [.slice ao ss.length cp,.slice bo bs.length dp,.string mac]:=Blk.new rfl rfl
 have HS1:=hide h1
 have HS2:=hide h2
 have HANS:=hide hans
 clear h1 h2 hans
 obtain ⟨n,hn⟩:∃ n:Nat,ss.length=n:=⟨_,rfl⟩
 obtain ⟨nb,hnb⟩:∃ n:Nat,bs.length=n:=⟨_,rfl⟩
 have ha:=HANS.out
 rw[hn,hnb] at ha
 rw[hn] at hbA hBlk hn1 ⊢
 rw[hnb] at hbA hBlk hn2 ⊢
 have HNN:=hide hn
 have HNB:=hide hnb
 have HB:=hide hbA
 have HBK:=hide hBlk
 clear HANS hbA hBlk hn hnb
 by_cases h0:n=0
 ·have z0:((n:Int)==0)=true:=beq_iff_eq.2 (by omega)
  rw[if_pos (.inl h0)] at ha
  subst ha
  clear h0 HS1 HS2 HBK HNN HNB
  go_enter Tryz.func127,Tryz.ntmps127
  go_wp2
  refine bodyPost_ret (results_tmp2 rfl _ _ _) rfl ?_
  exact ⟨rfl,HB.out⟩
 ·have z0:((n:Int)==0)=false:=beq_eq_false_iff_ne.2 (by omega)
  by_cases h3:3<n
  ·have z3:(decide ((3:Int)<(n:Int)))=true:=by simp;omega
   rw[if_pos (.inr (.inl h3))] at ha
   subst ha
   clear h0 h3 HS1 HS2 HBK HNN HNB
   go_enter Tryz.func127,Tryz.ntmps127
   go_wp2
   refine bodyPost_ret (results_tmp2 rfl _ _ _) rfl ?_
   exact ⟨rfl,HB.out⟩
  ·have z3:(decide ((3:Int)<(n:Int)))=false:=by simp;omega
   by_cases hb:nb=n
   ·subst hb
    have zb:((nb:Int) != (nb:Int))=false:=by simp
    rw[if_neg (by omega)] at ha
    have HA:=hide ha
    clear ha
    go_enter Tryz.func127,Tryz.ntmps127
    go_wp2
    go_loopw [5] (fun i wr=>∃ k m:Nat,k≤nb∧i = .int .i64 (k:Nat)∧(∀ j,j<k→(ss.getD j ⟨#[]⟩).size=16∧(bs.getD j ⟨#[]⟩).size=32)∧wr=(w.alloc (.cells #[.slice ao nb cp,.slice bo nb dp,.string mac] 155)).drewN m) (fun i _=>nb-(intOf i).toNat)
    case atStart=>exact ⟨0,0,Nat.zero_le _,rfl,fun j hj=>absurd hj (by omega),rfl⟩
    case round=>
     obtain ⟨k,m,hk,rfl,hgood,rfl⟩:=hrel
     obtain ⟨WA,hWA⟩:∃ WA,(w.alloc (.cells #[.slice ao nb cp,.slice bo nb dp,.string mac] 155)).drewN m=WA:=⟨_,rfl⟩
     have hbl:Below w.heap.size w WA:=by rw[←hWA];exact below_drewN HB.out m
     have hbk:Blk WA w.heap.size 155 [.slice ao nb cp,.slice bo nb dp,.string mac]:=by rw[←hWA];exact HBK.out
     rw[hWA]
     have HWA:=hide hWA
     have c0:=hbk.cell (i:=0) rfl
     have c1:=hbk.cell (i:=1) rfl
     have c2:=hbk.cell (i:=2) rfl
     have HG:=hide hgood
     have HBL:=hide hbl
     have HBKK:=hide hbk
     clear hWA hgood hbk
     by_cases hlt:k<nb
     ·obtain ⟨g,o,c,hv1,hgl,e1⟩:=HS1.out.at k (by rw[HNN.out];exact hlt)
      injection hv1 with hv1 _ _
      subst hv1
      obtain ⟨g2,o2,cc2,hv2,hgl2,e2⟩:=HS2.out.at k (by rw[HNB.out];exact hlt)
      injection hv2 with hv2 _ _
      subst hv2
      have f1:=(hbl.cell hgl).trans e1
      have f2:=(hbl.cell hgl2).trans e2
      have jk:(k:Int)<(nb:Int):=by omega
      have hg1:(ss.getD k ⟨#[]⟩).size=(ss.getD k ⟨#[]⟩).size:=rfl
      obtain ⟨sk,hsk⟩:∃ x,ss.getD k ⟨#[]⟩=x:=⟨_,rfl⟩
      obtain ⟨bk,hbk⟩:∃ x,bs.getD k ⟨#[]⟩=x:=⟨_,rfl⟩
      rw[hsk] at f1
      rw[hbk] at f2
      have HSK:=hide hsk
      have HBB:=hide hbk
      have HLT:=hide hlt
      clear e1 e2 hbl hg1 hsk hbk hlt
      by_cases hz1:sk.size=16
      ·by_cases hz2:bk.size=32
       ·have y1:((sk.size:Int) != 16)=false:=by rw[hz1];rfl
        have y2:((bk.size:Int) != 32)=false:=by rw[hz2];rfl
        have HZ1:=hide hz1
        have HZ2:=hide hz2
        clear hz1 hz2
        go_wp2
        go_roundw
        case rel=>
         have hlt:=HLT.out
         refine ⟨k+1,m,by omega,by go_num,fun j hj=>?_,HWA.out.symm⟩
         rcases Nat.lt_succ_iff_lt_or_eq.1 hj with h | h
         ·exact HG.out j h
         ·rw[h,HSK.out,HBB.out];exact ⟨HZ1.out,HZ2.out⟩
        case measure=>have hlt:=HLT.out;simp[intOf];omega
       ·have y1:((sk.size:Int) != 16)=false:=by rw[hz1];rfl
        have y2:((bk.size:Int) != 32)=true:=by rw[bne_iff_ne];omega
        have ha:=HA.out
        rw[if_pos (.inl ⟨k,HLT.out,.inr (by rw[HBB.out];exact hz2)⟩)] at ha
        subst ha
        clear hz1 hz2
        go_wp2
        refine bodyPost_ret (results_tmp2 rfl _ _ _) rfl ?_
        exact ⟨rfl,HBL.out⟩
      ·have y1:((sk.size:Int) != 16)=true:=by rw[bne_iff_ne];omega
       have ha:=HA.out
       rw[if_pos (.inl ⟨k,HLT.out,.inl (by rw[HSK.out];exact hz1)⟩)] at ha
       subst ha
       clear hz1
       go_wp2
       refine bodyPost_ret (results_tmp2 rfl _ _ _) rfl ?_
       exact ⟨rfl,HBL.out⟩
     ·have hkn:k=nb:=by omega
      subst hkn
      by_cases hm:mac.size=32
      ·have ym:((mac.size:Int) != 32)=false:=by rw[hm];rfl
       have ha:=HA.out
       have hgood:=HG.out
       rw[if_neg (by
        rintro (⟨i,hi,h⟩ | h)
        ·have:=hgood i hi
         omega
        ·exact h hm)] at ha
       have g1:∀ x ∈ ss,x.size=16:=Hd.getD_size (fun i hi=>(hgood i (by rw[HNN.out] at hi;exact hi)).1)
       have g2:∀ x ∈ bs,x.size=32:=Hd.getD_size (fun i hi=>(hgood i (by rw[HNB.out] at hi;exact hi)).2)
       have k1:Strs WA (.slice ao ss.length cp) ss:=by
        rcases HS1.out with h | ⟨g,o,c,hv,hc⟩
        ·exact .inl h
        ·exact .inr ⟨g,o,c,hv,fun i x hx=>(hbl.cell (World.block_lt_of_cell? w _ (hc i x hx))).trans (hc i x hx)⟩
       have k2:Strs WA (.slice bo bs.length dp) bs:=by
        rcases HS2.out with h | ⟨g,o,c,hv,hc⟩
        ·exact .inl h
        ·exact .inr ⟨g,o,c,hv,fun i x hx=>(hbl.cell (World.block_lt_of_cell? w _ (hc i x hx))).trans (hc i x hx)⟩
       rw[HNN.out] at k1
       rw[HNB.out] at k2
       have HBODY:=hide (headBody_any w.heap.size _ _ mac ss bs WA HBKK.out k1 k2 (by rw[HNN.out,HNB.out]) (by rw[HNN.out];omega) (fun x hx=>by rw[g1 x hx];decide) (fun x hx=>by rw[g2 x hx];decide))
       have HENC:=hide (fun w=>headEncode_any mac w (by omega))
       have hbsz:(⟨(Hd.body ss bs).toArray⟩:ByteArray).size≤1000000:=by
        have h:=Hd.bodyP_len ss bs (fun x hx=>by rw[g1 x hx];decide) (fun x hx=>by rw[g2 x hx];decide) ss.length
        rw[HNN.out] at h
        rw[ba_size]
        unfold Hd.body Hd.mark
        rw[List.length_append,HNN.out]
        simp only[List.length_cons,List.length_nil]
        omega
       have hel:=B64.enc_len mac.data.toList
       rw[ba_len,←ba_size] at hel
       have hcc:(⟨(Hd.body ss bs).toArray⟩:ByteArray)++⟨#[32]⟩++⟨(B64.enc mac.data.toList).toArray⟩++⟨#[10]⟩=⟨(Hd.text ss bs mac).toArray⟩:=by
        apply ba_ext
        simp only[ba_list]
        rfl
       have htx:ans=(Hd.text ss bs mac,0):=ha.symm
       have hBl9:=HBKK.out.lt
       subst htx
       generalize (⟨(Hd.body ss bs).toArray⟩:ByteArray)=tb at *
       generalize (⟨(B64.enc mac.data.toList).toArray⟩:ByteArray)=em at *
       have HCC:=hide hcc
       have u1:¬ (9223372036854775807<tb.size+1):=by omega
       have u2:¬ (9223372036854775807<tb.size+1+em.size):=by omega
       have u3:¬ (9223372036854775807<tb.size+1+em.size+1):=by omega
       clear hm ha hgood g1 g2 k1 k2 hbsz hel hcc hlt hk HA HG hbl
       go_wp2_with fail
       refine HBODY.out.mono ?_
       rintro e w5 ⟨rfl,hb5⟩
       have d2:w5.cell? ⟨w.heap.size,2,none⟩=some (.string mac):=(hb5.cell hBl9).trans c2
       have B5:=hide (HBL.out.trans (hb5.mono HBL.out.size))
       clear hb5 HBODY
       go_wp2_with fail
       refine (HENC.out _).mono ?_
       rintro e w6 ⟨rfl,hb6⟩
       have B6:=hide (B5.out.trans (hb6.mono B5.out.size))
       clear hb6 HENC B5
       go_wp2
       refine bodyPost_ret (results_tmp2 rfl _ _ _) rfl ?_
       exact ⟨by rw[←HCC.out];rfl,B6.out⟩
      ·have ym:((mac.size:Int) != 32)=true:=by rw[bne_iff_ne];omega
       have ha:=HA.out
       rw[if_pos (.inr hm)] at ha
       subst ha
       clear hm hlt hk
       go_wp2
       refine bodyPost_ret (results_tmp2 rfl _ _ _) rfl ?_
       exact ⟨rfl,HBL.out⟩
   ·have zb:((nb:Int) != (n:Int))=true:=by rw[bne_iff_ne];omega
    rw[if_pos (.inr (.inr hb))] at ha
    subst ha
    clear h0 h3 hb HS1 HS2 HBK HNN HNB
    go_enter Tryz.func127,Tryz.ntmps127
    go_wp2
    refine bodyPost_ret (results_tmp2 rfl _ _ _) rfl ?_
    exact ⟨rfl,HB.out⟩
theorem wpList_append_strB {ops:Array Oper} {rest:List Oper} {o:Oper} {a:Act} {w:World} {Q:Exit→Act→World→Prop} (hgd:o.guard=none) (s x:Operand)
  (ho:o.op = .call { callee:=.builtin .append,args:=#[s,x],argTypes:=#[41,41] })
  (base:Nat) (v:Value) (n:Nat) (xs:List ByteArray) (hs:a.eval s=v) (hown:Row w base 9 1 v n (strV xs))
  (g:Nat) (y:ByteArray) (hx:a.eval x = .slice (some ⟨g,0,none⟩) 1 1) (hnew:w.cell? ⟨g,0,none⟩=some (.string y)) (hn:n≤1099511627) (hbase:base≤w.heap.size)
  (h:∀ v' w',Row w' base 9 1 v' (n+1) (strV (xs++[y]))→w.grownBy w' v.ownBlock→(v'.ownBlock=v.ownBlock∨∃ g,v'.ownBlock=some g∧w.heap.size≤g)→wpList Tryz.prog ops Q rest (a.put o.dst v') w'):wpList Tryz.prog ops Q (o::rest) a w:=by
 obtain ⟨i0,hi,hz0,hz1,hz2⟩:=info_parts infoStr
 refine wpList_plain hgd fun _ hK=>?_
 refine wp_append_row s x 41 ho i0 (.string ByteArray.empty) 16 Tryz.underlying41 hi hz0 hz1 hz2 rfl (by decide) v n (strV xs) hs hown ⟨g,0,none⟩ 1 1 [.string y] hx rfl ?_ ?_ ?_ ?_ hbase ?_
 ·intro j u hj
  match j,hj with
  | 0,hj=>simp at hj;subst hj;rw[Addr.add_mid];exact hnew
 ·intro u hu;simp at hu;subst hu;rfl
 ·unfold maxLen;omega
 ·omega
 ·intro v' w' h1 h2 h3
  exact hK _ _ (h v' w' (by simpa [strV] using h1) h2 h3)
namespace Hd
end Hd
theorem new_at {w:World} {t:TypeId} {cs:List Value} (j:Nat) (u:Value) (h:cs[j]? = some u):(w.drew.alloc (.cells cs.toArray t)).cell? ⟨w.heap.size,j,none⟩=some u:=(Blk.new rfl rfl:Blk (w.drew.alloc (.cells cs.toArray t)) w.heap.size t cs).cell h
theorem step_append_n (e t:TypeId) (z:Value) (s bytes:Nat) (hs0:0<s) (hinfo:(Tryz.prog.info? e).map (fun i=>(i.zero,i.size,i.bytes))=some (some z,s,bytes)) (hu:Tryz.prog.underlying t=some (.slice e)) (hz:z.cells.size=s) (hby:bytes≤64)
  {ops:Array Oper} {o:Oper} {a:Act} {w:World} {K:Act→World→Prop} {Q:Exit→Act→World→Prop} {E:Prop} (hgd:o.guard=none) (sl x:Operand)
  (ho:o.op = .call { callee:=.builtin .append,args:=#[sl,x],argTypes:=#[t,t] })
  (v:Value) (n:Nat) (xs:List Value) (hs:a.eval sl=v) (hown:Row w 0 e s v n xs)
  (g:Nat) (news:List Value) (hx:a.eval x = .slice (some ⟨g,0,none⟩) 1 1) (hl:news.length=s) (h1:∀ u ∈ news,u.oneCell'=true) (hn1:∀ j u,news[j]? = some u→w.cell? ⟨g,j,none⟩=some u) (hn:n≤1099511627)
  (h:∀ v' w',Row w' 0 e s v' (n+1) (xs++news)→w.grownBy w' v.ownBlock→(v'.ownBlock=v.ownBlock∨∃ g,v'.ownBlock=some g∧w.heap.size≤g)→K (a.put o.dst v') w'):
  if Region.wanted o (yielded ops a.tmps)=true then Oper.wp Tryz.prog o a w K Q else E:=by
 rw[if_pos (by simp[Region.wanted,hgd])]
 obtain ⟨i0,hi,hz0,hz1,hz2⟩:=info_parts hinfo
 refine wp_append_row sl x t ho i0 z bytes hu hi hz0 hz1 hz2 hz hs0 v n xs hs hown ⟨g,0,none⟩ 1 1 news hx (by rw[hl,Nat.one_mul]) ?_ h1 ?_ ?_ (Nat.zero_le _) h
 ·intro j u hj
  rw[Addr.add_mid,Nat.zero_add]
  exact hn1 j u hj
 ·unfold maxLen;omega
 ·have:(n+1)*bytes≤(n+1)*64:=Nat.mul_le_mul_left _ hby
  omega
theorem Stays.setCell {T:Tags} (w:World) (g i:Nat) (u:Value) {S:Nat × Nat→Prop} (hS:S (T g)):Stays T T w (w.setCell ⟨g,i,none⟩ u) S:=
 ⟨rfl,rfl,rfl,by show w.heap.size≤(w.heap.modify _ _).size;simp,fun _ _=>rfl,fun j _ hn=>Below.heap_setCell w ⟨g,i,none⟩ _ j (fun e=>hn (by rw[e];exact hS))⟩
namespace Hd
end Hd
theorem Row.strs {w:World} {base:Nat} {v:Value} {l:List ByteArray} (h:Row w base 9 1 v l.length (strV l)):Strs w v l:=by
 rcases Nat.eq_zero_or_pos l.length with h0 | h0
 ·obtain ⟨ao,cap,rfl,_⟩:=Row.anyN h
  exact .inl ⟨List.eq_nil_of_length_eq_zero h0,ao,cap,by rw[h0]⟩
 ·obtain ⟨g,cap,cur,rfl,_,hB,_,_,_,htk⟩:=h.open h0
  refine .inr ⟨g,0,cap,rfl,fun i x hx=>?_⟩
  rw[Nat.zero_add]
  exact hB.cell (take_at htk (by simp[strV,hx]))
theorem Strs.below {w w':World} {v:Value} {l:List ByteArray} (h:Strs w v l) {B:Nat} (hb:Below B w w') (hB:∀ g o n c,v = .slice (some ⟨g,o,none⟩) n c→0<l.length→g<B):Strs w' v l:=by
 rcases h with h | ⟨g,o,c,rfl,hc⟩
 ·exact .inl h
 ·refine .inr ⟨g,o,c,rfl,fun i x hx=>?_⟩
  have hl:0<l.length:=Nat.lt_of_le_of_lt (Nat.zero_le i) (List.getElem?_eq_some_iff.1 hx).1
  rw[hb.cell (show (⟨g,o+i,none⟩:Addr).block<B from hB g o _ c rfl hl)]
  exact hc i x hx
theorem Strs.blt {w:World} {v:Value} {l:List ByteArray} (h:Strs w v l):∀ g o n c,v = .slice (some ⟨g,o,none⟩) n c→0<l.length→g<w.heap.size:=by
 intro g o n c hv hl
 obtain ⟨g',o',c',hv',hlt,_⟩:=h.at 0 hl
 rw[hv] at hv'
 cases hv'
 exact hlt
theorem Strs.after {w w':World} {v:Value} {l:List ByteArray} (h:Strs w v l) (hb:Below w.heap.size w w'):Strs w' v l:=h.below hb h.blt
namespace Ref
def inWrap:List UInt8:=[119,114,97,112]
def inHead:List UInt8:=[104,101,97,100,101,114]
def inBody:List UInt8:=[112,97,121,108,111,97,100]
def keyL (ikm salt info:List UInt8):List UInt8:=(expO (macL salt ikm) info 1).take 32
theorem keyL_len (ikm salt info:List UInt8):(keyL ikm salt info).length=32:=by
 unfold keyL
 rw[List.length_take,expO_len]
 rfl
def macH (key:List UInt8) (ss bs:List ByteArray):List UInt8:=macL (keyL key [] inHead) (Hd.body ss bs)
end Ref
set_option maxRecDepth 100000 in
set_option maxHeartbeats 800000 in
theorem refMac_any (key:ByteArray) (B:Nat) (vs vb:Value) (mac:ByteArray) (ss bs:List ByteArray) (w:World) (hB:Blk w B 155 [vs,vb,.string mac]) (h1:Strs w vs ss) (h2:Strs w vb bs) (hl:bs.length=ss.length) (hn:ss.length≤1000) (hz1:∀ x ∈ ss,x.size≤1000) (hz2:∀ x ∈ bs,x.size≤1000) (hk:key.size≤1090000000):
  Calls Tryz.prog 193 #[.string key,.pointer (some ⟨B,0,none⟩)] w fun e w'=>e = .returned (.string ⟨(Ref.macH key.data.toList ss bs).toArray⟩)∧Below w.heap.size w w':=by
 have HK:=hide (fun w=>refKey_any key ⟨#[]⟩ ⟨#[104,101,97,100,101,114]⟩ w hk (by decide) (by decide))
 have HKV:=hide (show Ref.keyL key.data.toList [] Ref.inHead=(expO (macL (⟨#[]⟩:ByteArray).data.toList key.data.toList) (⟨#[104,101,97,100,101,114]⟩:ByteArray).data.toList 1).take 32 from rfl)
 have HB:=hide (fun (w':World) (hb:Below w.heap.size w w')=>headBody_any B vs vb mac ss bs w' (hB.below hb hB.lt) (h1.after hb) (h2.after hb) hl hn hz1 hz2)
 have hkl:(⟨(Ref.keyL key.data.toList [] Ref.inHead).toArray⟩:ByteArray).size≤1090000000:=by rw[two_size,Ref.keyL_len];decide
 have hbl:(⟨(Hd.body ss bs).toArray⟩:ByteArray).size≤1090000000:=by
  rw[two_size]
  unfold Hd.body
  have:=Hd.bodyP_len ss bs hz1 hz2 ss.length
  rw[List.length_append]
  show _+3≤_
  omega
 have HM:=hide (fun w=>refHmac_any ⟨(Ref.keyL key.data.toList [] Ref.inHead).toArray⟩ ⟨(Hd.body ss bs).toArray⟩ w hkl hbl)
 rw[two_toList,two_toList] at HM
 rw[←HKV.out] at HK
 have HV:=hide (show Ref.macH key.data.toList ss bs=macL (Ref.keyL key.data.toList [] Ref.inHead) (Hd.body ss bs) from rfl)
 rw[HV.out]
 generalize macL (Ref.keyL key.data.toList [] Ref.inHead) (Hd.body ss bs)=MM at *
 generalize (⟨(Ref.keyL key.data.toList [] Ref.inHead).toArray⟩:ByteArray)=kk at *
 generalize (⟨(Hd.body ss bs).toArray⟩:ByteArray)=bb at *
 clear HV HKV hkl hbl hB h1 h2 hl hn hz1 hz2 hk
 go_enter Tryz.func193,Tryz.ntmps193
 go_wp2_with fail
 refine (HK.out _).mono ?_
 rintro e w1 ⟨rfl,be1⟩
 have BE1:=hide be1
 clear HK be1
 go_wp2_with fail
 refine (HB.out _ BE1.out).mono ?_
 rintro e w2 ⟨rfl,be2⟩
 have BE2:=hide (BE1.out.trans (be2.mono BE1.out.size))
 clear HB be2 BE1
 go_wp2_with fail
 refine (HM.out _).mono ?_
 rintro e w3 ⟨rfl,be3⟩
 have BE3:=hide (BE2.out.trans (be3.mono BE2.out.size))
 clear HM be3 BE2
 go_wp2
 go_ret
 exact ⟨rfl,BE3.out⟩
theorem u32V_len (l:List Nat):(u32V l).length=l.length:=by simp[u32V]
theorem u32V_get (l:List Nat) (i:Nat) (h:i<l.length):(u32V l)[i]? = some (.int .u32 ((l.getD i 0:Nat):Int)):=by
 simp[u32V,List.getD,h]
theorem u32V_put (l:List Nat) (i x:Nat):(u32V l).set i (.int .u32 ((x:Nat):Int))=u32V (l.set i x):=by
 unfold u32V
 rw[List.map_set]
theorem u8V_len (l:List UInt8):(u8V l).length=l.length:=by simp[u8V]
theorem u8V_one (l:List UInt8):∀ v ∈ u8V l,v.oneCell'=true:=by
 intro v hv
 obtain ⟨x,_,rfl⟩:=List.mem_map.1 hv
 rfl
theorem wpList_load_row {P:Program} {ops:Array Oper} {rest:List Oper} {op:Oper} {a:Act} {w:World} {Q:Exit→Act→World→Prop} (hgd:op.guard=none) (ty:TypeId) (x:Operand) (ho:op.op = .load ty x)
  (b:Nat) (hx:a.eval x = .pointer (some ⟨b,0,none⟩)) (n:Nat) (e:TypeId) (hu:P.underlying ty=some (.array n e)) (hi:(P.info? ty).map (·.size)=some n) (cs:List Value) (t:TypeId) (hb:Blk w b t cs) (hl:cs.length=n)
  (h:wpList P ops Q rest (a.put op.dst (.agg cs.toArray)) w):wpList P ops Q (op::rest) a w:=
 wpList_load_mid hgd ty x ho b 0 hx cs (.array n e) hb.rangeAll hu rfl (by rw[hl];exact hi) h
theorem wpList_store_row {P:Program} {ops:Array Oper} {rest:List Oper} {op:Oper} {a:Act} {w:World} {Q:Exit→Act→World→Prop} (hgd:op.guard=none) (ty:TypeId) (x y:Operand) (ho:op.op = .store ty x y)
  (b:Nat) (hx:a.eval x = .pointer (some ⟨b,0,none⟩)) (n:Nat) (hi:(P.info? ty).map (·.size)=some n) (cs:List Value) (hy:a.eval y = .agg cs.toArray) (hl:cs.length=n) (h1:∀ v ∈ cs,v.oneCell'=true) (old:List Value) (t:TypeId) (hb:Blk w b t old) (hol:old.length=n)
  (h:∀ w',Blk w' b t cs→w.grownBy w' (some b)→wpList P ops Q rest (a.put op.dst undef) w'):wpList P ops Q (op::rest) a w:=
 wpList_store_blk hgd ty x y ho b 0 cs.toArray hx hy (by rw[hi];simp[hl]) (all_oneCell_toArray h1) t old hb (by simp[hl,hol])
  fun w' h1 h2=>h w' (by rw[laidOver_all _ _ (by simp[hl,hol])] at h1;exact h1) h2
theorem ret_rowB {P:Program} {fn:Func} {R:Ending→World→Prop} {a:Act} {w:World} {p:Tmp} {ty:TypeId} (h:fn.results = #[.cell p ty]) (b:Nat) (hp:a.tmps.getD p undef = .pointer (some ⟨b,0,none⟩))
  (n:Nat) (e:TypeId) (hu:P.underlying ty=some (.array n e)) (hi:(P.info? ty).map (·.size)=some n) (cs:List Value) (t:TypeId) (hb:Blk w b t cs) (hl:cs.length=n) (hdf:a.defers=[])
  (hR:R (.returned (.agg cs.toArray)) w):bodyPost P fn R .ret a w:=
 ret_row h b 0 hp cs (.array n e) hb.rangeAll hu rfl (by rw[hl];exact hi) hdf hR
theorem Row.zero {w:World} {base g:Nat} {e:TypeId} (hb:base≤g) (h:Blk w g e []):Row w base e 1 (.slice (some ⟨g,0,none⟩) 0 0) 0 []:=
 ⟨rfl,.inr ⟨g,0,[],rfl,hb,h.marked,Nat.le_refl _,by decide,rfl,rfl⟩⟩
theorem wpList_stop {P:Program} {ops:Array Oper} {rest:List Oper} {op:Oper} {a:Act} {w:World} {Q:Exit→Act→World→Prop} (x:Op) (_:op.op=x) (h:Hid (wpList P ops Q (op::rest) a w)):wpList P ops Q (op::rest) a w:=h
theorem wpList_at {P:Program} {ops:Array Oper} {rest:List Oper} {op:Oper} {a:Act} {w:World} {Q:Exit→Act→World→Prop} (x:Op) (_:op.op=x) (h:wpList P ops Q (op::rest) a w):wpList P ops Q (op::rest) a w:=h
theorem wpList_letterW {P:Program} {ops:Array Oper} {l:List Oper} {a:Act} {w:World} {Q:Exit→Act→World→Prop} (F:World→Prop) (hF:F w) (h:∀ w',F w'→wpList P ops Q l a w'):Hid (wpList P ops Q l a w):=h w hF
theorem or_rotl_int (v n:Nat) (hv:v<4294967296) (hn:n≤32):
  bits .or .u32 ((v:Int)*2 ^ n%4294967296) ((v:Int)/2 ^ (32-n))=(Cha.rotl v n:Nat):=by
 have e1:((v:Int)/2 ^ (32-n))=((v/2 ^ (32-n):Nat):Int):=by rw[Int.natCast_ediv,Int.natCast_pow];rfl
 have e2:((v:Int)*2 ^ n%4294967296)=((v*2 ^ n%4294967296:Nat):Int):=by
  rw[←cast_mulmod,Int.natCast_pow];rfl
 have hp:2 ^ (32-n)*2 ^ n=4294967296:=by rw[←Nat.pow_add,show 32-n+n=32 by omega]
 have hq:0<2 ^ (32-n):=Nat.two_pow_pos _
 have h1:v/2 ^ (32-n)<2 ^ n:=(Nat.div_lt_iff_lt_mul hq).2 (by rw[Nat.mul_comm,hp];exact hv)
 have h3:v*2 ^ n%4294967296=v%2 ^ (32-n)*2 ^ n:=by rw[←hp,Nat.mul_mod_mul_right]
 have h4:v/2 ^ (32-n)<4294967296:=Nat.lt_of_le_of_lt (Nat.div_le_self _ _) hv
 rw[e1,e2,u32_or_nat _ _ (Nat.mod_lt _ (by omega)) h4,h3,or_shift _ _ _ h1]
 rfl
set_option maxHeartbeats 400000 in
theorem turnLeft_any (v n:Nat) (w:World) (hv:v<4294967296) (hn:n≤32):
  Calls Tryz.prog 217 #[.int .u32 v,.int .u32 n] w fun e w'=>e = .returned (.int .u32 (Cha.rotl v n:Nat))∧w'=w:=by
 go_enter Tryz.func217,Tryz.ntmps217
 go_wp2
 go_ret
 exact ⟨ret_int (or_rotl_int v n hv hn),rfl⟩
theorem sumc (a b:Nat):((a:Int)+(b:Int))%4294967296=(((a+b)%4294967296:Nat):Int):=by omega
theorem info16:(Tryz.prog.info? 145).map (·.size)=some 16:=by kernel_rfl
theorem zeros32_len (n:Nat):(zeros32 n).length=n:=by simp[zeros32]
theorem half_nums (a b c d m n:Nat) (hm:m≤32) (hn:n≤32) (_:a<4294967296) (hb:b<4294967296) (_:c<4294967296) (hd:d<4294967296):
  ∃ a1 x1 d1 c1 x2 b1:Nat,(⟨a1,b1,c1,d1⟩:Cha.Q4)=Cha.Q4.half ⟨a,b,c,d⟩ m n∧((a:Int)+(b:Int))%4294967296=(a1:Int)∧bits .xor .u32 (d:Int) (a1:Int)=(x1:Int)∧d1=Cha.rotl x1 m∧((c:Int)+(d1:Int))%4294967296=(c1:Int)∧bits .xor .u32 (b:Int) (c1:Int)=(x2:Int)∧b1=Cha.rotl x2 n ∧
   x1<4294967296∧x2<4294967296∧a1<4294967296∧b1<4294967296∧c1<4294967296∧d1<4294967296:=by
 have q (x:Nat):x%4294967296<4294967296:=Nat.mod_lt _ (by decide)
 have x1:=Nat.xor_lt_two_pow (n:=32) hd (q (a+b))
 have x2:=Nat.xor_lt_two_pow (n:=32) hb (q (c+Cha.rotl (d ^^^ (a+b)%4294967296) m))
 exact ⟨_,_,_,_,_,_,rfl,sumc a b,u32_xor_nat _ _ hd (q _),rfl,sumc _ _,u32_xor_nat _ _ hb (q _),rfl,x1,x2,q _,Cha.rotl_lt _ _ hn x2,q _,Cha.rotl_lt _ _ hm x1⟩
set_option maxRecDepth 100000 in
set_option maxHeartbeats 1600000 in
theorem quarter_any (l:List Nat) (i j k m:Nat) (w:World) (hl:Cha.Ok l) (hi:i<16) (hj:j<16) (hk:k<16) (hm:m<16)
  (h1:i≠j) (h2:i≠k) (h3:i≠m) (h4:j≠k) (h5:j≠m) (h6:k≠m):
  Calls Tryz.prog 211 #[.agg (u32V l).toArray,.int .i64 (i:Nat),.int .i64 (j:Nat),.int .i64 (k:Nat),.int .i64 (m:Nat)] w fun e w'=>e = .returned (.agg (u32V (Cha.quarter l i j k m)).toArray)∧Below w.heap.size w w':=by
 have hq:=Cha.quarter_eq l i j k m hl.1 hi hj hk hm h1 h2 h3 h4 h5 h6
 obtain ⟨a1,x1,d1,c1,x2,b1,e1,s1,t1,r1,s2,t2,r2,y1,y2,ba,bb,bc,bd⟩:=half_nums (l.getD i 0) (l.getD j 0) (l.getD k 0) (l.getD m 0) 16 12 (by decide) (by decide) (hl.at i hi) (hl.at j hj) (hl.at k hk) (hl.at m hm)
 obtain ⟨a2,x3,d2,c2,x4,b2,e2,s3,t3,r3,s4,t4,r4,y3,y4,_,_,_,_⟩:=half_nums a1 b1 c1 d1 8 7 (by decide) (by decide) ba bb bc bd
 unfold Cha.q4 at hq
 rw[←e1,←e2] at hq
 have hlen:=hl.1
 have HQ:=hide hq
 have HL:=hide hlen
 have T1:=hide (fun w=>turnLeft_any x1 16 w y1 (by decide))
 have T2:=hide (fun w=>turnLeft_any x2 12 w y2 (by decide))
 have T3:=hide (fun w=>turnLeft_any x3 8 w y3 (by decide))
 have T4:=hide (fun w=>turnLeft_any x4 7 w y4 (by decide))
 rw[←r1] at T1
 rw[←r2] at T2
 rw[←r3] at T3
 rw[←r4] at T4
 have G1:=u32V_get l i (by omega)
 have G2:=u32V_get l j (by omega)
 have G3:=u32V_get l k (by omega)
 have G4:=u32V_get l m (by omega)
 generalize l.getD i 0=va at *
 generalize l.getD j 0=vb at *
 generalize l.getD k 0=vc at *
 generalize l.getD m 0=vd at *
 clear hq e1 e2 r1 r2 r3 r4 y1 y2 y3 y4 ba bb bc bd hl hlen h1 h2 h3 h4 h5 h6
 have ji:(i:Int)<16:=by omega
 have jj:(j:Int)<16:=by omega
 have jk:(k:Int)<16:=by omega
 have jm:(m:Int)<16:=by omega
 go_enter Tryz.func211,Tryz.ntmps211
 go_wp2_with (with_reducible refine wpList_stop (.indexAddr 145 (.tmp 5) (.tmp 15)) rfl ?_)
 refine wpList_letterW (fun w'=>Blk w' w.heap.size 145 (u32V l)∧Blk w' (w.heap.size+1) 145 (u32V (zeros32 16))∧Below w.heap.size w w') ⟨(Blk.new rfl rfl).alloc _,Blk.new (by simp) rfl,((Below.refl _ _).alloc (Nat.le_refl _) _).alloc (by simp) _⟩ ?_
 rintro w1 ⟨hB0,hB1,hbe⟩
 have g1:=hB0.cell G1
 have g2:=hB0.cell G2
 have g3:=hB0.cell G3
 have g4:=hB0.cell G4
 have f:=hB0.frozen
 go_wp2_with fail
 refine (T1.out _).mono ?_
 rintro e w' ⟨rfl,rfl⟩
 go_wp2_with fail
 refine (T2.out _).mono ?_
 rintro e w' ⟨rfl,rfl⟩
 go_wp2_with fail
 refine (T3.out _).mono ?_
 rintro e w' ⟨rfl,rfl⟩
 go_wp2_with fail
 refine (T4.out _).mono ?_
 rintro e w' ⟨rfl,rfl⟩
 clear T1 T2 T3 T4
 go_wp2_with (with_reducible refine wpList_stop (.indexAddr 145 (.tmp 5) (.tmp 58)) rfl ?_)
 clear g1 g2 g3 g4 G1 G2 G3 G4 s1 s2 s3 s4 t1 t2 t3 t4
 refine wpList_letterW (fun w'=>Blk w' w.heap.size 145 (u32V (l.set i a2))∧Blk w' (w.heap.size+1) 145 (u32V (zeros32 16))∧Below w.heap.size w w') ⟨by have h:=hB0.setCell_same i (.int .u32 (a2:Nat));rw[u32V_put] at h;exact h,hB1.setCell_other _ _ (by simp),hbe.setCell (by simp) _⟩ ?_
 clear hB0 hB1 hbe f
 rintro w2 ⟨hB0,hB1,hbe⟩
 have f:=hB0.frozen
 have g2:=hB0.cell (u32V_get (l.set i a2) j (by have:=HL.out;simp;omega))
 go_wp2_with (with_reducible refine wpList_stop (.indexAddr 145 (.tmp 5) (.tmp 61)) rfl ?_)
 refine wpList_letterW (fun w'=>Blk w' w.heap.size 145 (u32V ((l.set i a2).set j b2))∧Blk w' (w.heap.size+1) 145 (u32V (zeros32 16))∧Below w.heap.size w w') ⟨by have h:=hB0.setCell_same j (.int .u32 (b2:Nat));rw[u32V_put] at h;exact h,hB1.setCell_other _ _ (by simp),hbe.setCell (by simp) _⟩ ?_
 clear hB0 hB1 hbe f g2
 rintro w3 ⟨hB0,hB1,hbe⟩
 have f:=hB0.frozen
 have g3:=hB0.cell (u32V_get ((l.set i a2).set j b2) k (by have:=HL.out;simp;omega))
 go_wp2_with (with_reducible refine wpList_stop (.indexAddr 145 (.tmp 5) (.tmp 64)) rfl ?_)
 refine wpList_letterW (fun w'=>Blk w' w.heap.size 145 (u32V (((l.set i a2).set j b2).set k c2))∧Blk w' (w.heap.size+1) 145 (u32V (zeros32 16))∧Below w.heap.size w w') ⟨by have h:=hB0.setCell_same k (.int .u32 (c2:Nat));rw[u32V_put] at h;exact h,hB1.setCell_other _ _ (by simp),hbe.setCell (by simp) _⟩ ?_
 clear hB0 hB1 hbe f g3
 rintro w4 ⟨hB0,hB1,hbe⟩
 have f:=hB0.frozen
 have g4:=hB0.cell (u32V_get (((l.set i a2).set j b2).set k c2) m (by have:=HL.out;simp;omega))
 go_wp2_with (with_reducible refine wpList_stop (.load 145 (.tmp 5)) rfl ?_)
 refine wpList_letterW (fun w'=>Blk w' w.heap.size 145 (u32V ((((l.set i a2).set j b2).set k c2).set m d2))∧Blk w' (w.heap.size+1) 145 (u32V (zeros32 16))∧Below w.heap.size w w') ⟨by have h:=hB0.setCell_same m (.int .u32 (d2:Nat));rw[u32V_put] at h;exact h,hB1.setCell_other _ _ (by simp),hbe.setCell (by simp) _⟩ ?_
 clear hB0 hB1 hbe f g4
 rintro w5 ⟨hB0,hB1,hbe⟩
 have f:=hB0.frozen
 have LQ:=hide (show (u32V ((((l.set i a2).set j b2).set k c2).set m d2)).length=16 by rw[u32V_len];have:=HL.out;simpa using this)
 have LZ:=hide ((u32V_len (zeros32 16)).trans (zeros32_len 16))
 generalize (((l.set i a2).set j b2).set k c2).set m d2=l2 at *
 go_wp2_with (first | ((with_reducible refine wpList_at (.load 145 (.tmp 5)) rfl ?_);refine wpList_load_row rfl 145 (.tmp 5) rfl w.heap.size rfl 16 130 Tryz.underlying145 info16 (u32V l2) 145 hB0 LQ.out ?_) | ((with_reducible refine wpList_at (.store 145 (.tmp 10) (.tmp 67)) rfl ?_);refine wpList_store_row rfl 145 (.tmp 10) (.tmp 67) rfl (w.heap.size+1) rfl 16 info16 (u32V l2) rfl LQ.out (u32V_one _) (u32V (zeros32 16)) 145 hB1 LZ.out ?_;intro w9 hB9 hG9))
 exact ret_rowB Tryz.results211 (w.heap.size+1) rfl 16 130 Tryz.underlying145 info16 (u32V l2) 145 hB9 LQ.out rfl ⟨by rw[HQ.out],hbe.trans (RowKit.Below.of_grown hG9 (by omega) hbe.size)⟩
theorem info17:(Tryz.prog.info? 163).map (·.size)=some 17:=by kernel_rfl
theorem LZ17:(u32V (zeros32 17)).length=17:=(u32V_len _).trans (zeros32_len 17)
theorem L17 {l:List Nat} (h:l.length=17):(u32V l).length=17:=(u32V_len _).trans h
theorem carry_nums (x v:Nat) (hx:x<4278190080) (hv:v<16777216):∃ s y z:Nat,((x:Int)+(v:Int))%4294967296=(s:Int)∧bits .and .u32 (s:Int) 255=(y:Int)∧(s:Int)/256=(z:Int)∧z<16777216∧s<4294967296∧y=(x+v)%256∧z=(x+v)/256:=by
 refine ⟨x+v,(x+v)%256,(x+v)/256,by omega,?_,by omega,by omega,by omega,rfl,rfl⟩
 have h:=u32_and_nat (x+v) 255 (by omega) (by decide)
 rw[Pol.and255] at h
 exact h
set_option maxRecDepth 100000 in
set_option maxHeartbeats 1600000 in
theorem carry_any (l:List Nat) (w:World) (hl:l.length=17) (hd:∀ i,l.getD i 0<4278190080):
  Calls Tryz.prog 186 #[.agg (u32V l).toArray] w fun e w'=>(∃ c,e = .returned (.agg (u32V c).toArray)∧Pol.Car c∧Dig.val c=Dig.val l)∧Below w.heap.size w w':=by
 go_enter Tryz.func186,Tryz.ntmps186
 go_wp2
 go_loopw [3,4] (fun vo vi wr=>∃ (i v:Nat) (c:List Nat),i≤16∧vi = .int .i64 (i:Nat)∧vo = .int .u32 (v:Nat)∧v<16777216∧Pol.Carry l c i v∧Blk wr (w.heap.size) 163 (u32V c)∧Blk wr (w.heap.size+1) 163 (u32V (zeros32 17))∧Below w.heap.size w wr) (fun _ i _=>16-(intOf i).toNat)
 case atStart=>exact ⟨0,0,l,by omega,rfl,rfl,by decide,Pol.Carry.start l hl,(Blk.new rfl rfl).alloc _,Blk.new (by simp) rfl,((Below.refl _ _).alloc (Nat.le_refl _) _).alloc (by simp) _⟩
 case round=>
  obtain ⟨i,v,c,hi,rfl,rfl,hv,hC,hB,hR,hbe⟩:=hrel
  have hcl:=hC.1
  by_cases hlt:i<16
  ·have hci:c.getD i 0<4278190080:=by rw[hC.2.2.2 i (Nat.le_refl _)];exact hd i
   have c0:=hB.cell (u32V_get c i (by omega))
   have f0:=hB.frozen i
   obtain ⟨s,y,z,e1,e2,e3,hz,hs,hy1,hz1⟩:=carry_nums (c.getD i 0) v hci hv
   have hst:=hC.step hlt
   rw[←hy1,←hz1] at hst
   have hB2:=hB.setCell_same i (.int .u32 (y:Nat))
   rw[u32V_put] at hB2
   generalize c.getD i 0=x at *
   have HST:=hide hst
   have HB2:=hide hB2
   have HR:=hide (hR.setCell_other ⟨w.heap.size,i,none⟩ (.int .u32 (y:Nat)) (by first | (simp;done) | (simp;omega)))
   have HBE:=hide (hbe.setCell (p:=⟨w.heap.size,i,none⟩) (Nat.le_refl _) (.int .u32 (y:Nat)))
   have ji:(i:Int)<17:=by omega
   clear hst hB2 hy1 hz1 hC hcl hd hci hB hR hbe hl
   go_wp2
   go_roundw
   case rel=>exact ⟨i+1,z,_,by omega,by go_num,rfl,hz,HST.out,HB2.out,HR.out,HBE.out⟩
   case measure=>simp[intOf];omega
  ·obtain rfl:i=16:=by omega
   have hci:c.getD 16 0<4278190080:=by rw[hC.2.2.2 16 (Nat.le_refl _)];exact hd 16
   have c0:=hB.cell (u32V_get c 16 (by omega))
   have f0:=hB.frozen 16
   obtain ⟨h1,h2⟩:=hC.done
   obtain ⟨s,hs⟩:∃ s:Nat,s=c.getD 16 0+v:=⟨_,rfl⟩
   have e1:((c.getD 16 0:Nat):Int)+(v:Int)=(s:Int):=by omega
   have e2:(s:Int)%4294967296=(s:Int):=by omega
   rw[←hs] at h1 h2
   have hB2:=hB.setCell_same 16 (.int .u32 (s:Nat))
   rw[u32V_put] at hB2
   generalize c.getD 16 0=x at *
   generalize c.set 16 s=c2 at *
   have HB2:=hide hB2
   have HR:=hide (hR.setCell_other ⟨w.heap.size,16,none⟩ (.int .u32 (s:Nat)) (by first | (simp;done) | (simp;omega)))
   have HBE:=hide (hbe.setCell (p:=⟨w.heap.size,16,none⟩) (Nat.le_refl _) (.int .u32 (s:Nat)))
   have HL:=hide (L17 h1.1)
   have H12:=hide (And.intro h1 h2)
   clear h1 h2 hC hcl hd hci hB hR hbe hl hB2 hs hlt hi hv
   go_wp2_with (with_reducible refine wpList_stop (.load 163 (.tmp 1)) rfl ?_)
   refine wpList_letterW (fun w'=>Blk w' (w.heap.size) 163 (u32V c2)∧Blk w' (w.heap.size+1) 163 (u32V (zeros32 17))∧Below w.heap.size w w') ⟨HB2.out,HR.out,HBE.out⟩ ?_
   rintro w1 ⟨hB,hR,hbe⟩
   go_wp2_with (first | ((with_reducible refine wpList_at (.load 163 (.tmp 1)) rfl ?_);refine wpList_load_row rfl 163 (.tmp 1) rfl (w.heap.size) rfl 17 130 Tryz.underlying163 info17 (u32V c2) 163 hB HL.out ?_) | ((with_reducible refine wpList_at (.store 163 (.tmp 2) (.tmp 26)) rfl ?_);refine wpList_store_row rfl 163 (.tmp 2) (.tmp 26) rfl (w.heap.size+1) rfl 17 info17 (u32V c2) rfl HL.out (u32V_one _) (u32V (zeros32 17)) 163 hR LZ17 ?_;intro w9 hB9 hG9))
   exact ret_rowB Tryz.results186 (w.heap.size+1) rfl 17 130 Tryz.underlying163 info17 (u32V c2) 163 hB9 HL.out rfl ⟨⟨_,rfl,H12.out⟩,hbe.trans (RowKit.Below.of_grown hG9 (by omega) hbe.size)⟩
theorem fold_nums (x t:Nat) (hx:x<256) (ht:t≤2147483648):∃ y z p s:Nat,(t:Int)/4=(y:Int)∧bits .and .u32 (t:Int) 3=(z:Int)∧(5*(y:Int))%4294967296=(p:Int)∧((x:Int)+(p:Int))%4294967296=(s:Int)∧y=t/4∧z=t%4∧s=x+5*(t/4):=by
 refine ⟨t/4,t%4,5*(t/4),x+5*(t/4),by omega,?_,by omega,by omega,rfl,rfl,rfl⟩
 have h:=u32_and_nat t 3 (by omega) (by decide)
 rw[Pol.and3] at h
 exact h
theorem Pol.val_le (l:List Nat) (h:∀ i,l.getD i 0≤1073741824):∀ i,Dig.val (l.take i)≤1073741824*256 ^ i
 | 0=>by simp[Dig.val]
 | i+1=>by
  have h1:=Pol.val_le l h i
  have h2:=Nat.mul_le_mul_left (256 ^ i) (h i)
  rw[Dig.val_take,Nat.pow_succ]
  generalize 256 ^ i=p at *
  omega
theorem Pol.top_le {l c:List Nat} (hl:l.length=17) (h:∀ i,l.getD i 0≤1073741824) (hc:Pol.Car c) (hv:Dig.val c=Dig.val l):c.getD 16 0≤2147483648:=by
 rw[hc.top,hv,Pol.val_top hl]
 have h1:=Pol.val_le l h 16
 have h2:=Nat.mul_le_mul_left (256 ^ 16) (h 16)
 refine Nat.le_of_lt_succ ((Nat.div_lt_iff_lt_mul (by decide)).2 ?_)
 have h3:1073741824*256 ^ 16+256 ^ 16*1073741824<2147483649*256 ^ 16:=by decide
 omega
theorem Pol.foldL_at {c:List Nat} (h:Pol.Car c) (ht:c.getD 16 0≤2147483648) (i:Nat):(Pol.foldL c).getD i 0<4278190080:=by
 have h0:=h.2 0 (by decide)
 have hl:=h.1
 unfold Pol.foldL
 rw[getD_set _ _ _ _ (by rw[List.length_set];omega)]
 split
 ·omega
 ·rw[getD_set _ _ _ _ (by omega)]
  split
  ·omega
  ·rcases Nat.lt_or_ge i 16 with h1 | h1
   ·have:=h.2 i h1;omega
   ·rw[List.getD_eq_getElem?_getD,List.getElem?_eq_none (by omega)];decide
set_option maxRecDepth 100000 in
set_option maxHeartbeats 1600000 in
theorem fold_any (l:List Nat) (w:World) (hl:l.length=17) (hd:∀ i,l.getD i 0≤1073741824):
  Calls Tryz.prog 213 #[.agg (u32V l).toArray] w fun e w'=>(∃ c,e = .returned (.agg (u32V c).toArray)∧Pol.Fold c∧Dig.val c%Pol.P=Dig.val l%Pol.P)∧Below w.heap.size w w':=by
 have C1:=hide (fun w=>carry_any l w hl (fun i=>Nat.lt_of_le_of_lt (hd i) (by decide)))
 have HL:=hide (L17 hl)
 have TOP:=hide (fun c=>Pol.top_le (c:=c) hl hd)
 clear hl hd
 go_enter Tryz.func213,Tryz.ntmps213
 go_wp2_with (with_reducible refine wpList_stop (.load 163 (.tmp 1)) rfl ?_)
 refine wpList_letterW (fun w'=>Blk w' (w.heap.size) 163 (u32V l)∧Blk w' (w.heap.size+1) 163 (u32V (zeros32 17))∧Below w.heap.size w w'∧w.heap.size+1<w'.heap.size) ⟨(Blk.new rfl rfl).alloc _,Blk.new (by simp) rfl,((Below.refl _ _).alloc (Nat.le_refl _) _).alloc (by simp) _,by simp⟩ ?_
 rintro w0 ⟨hB0,hZ0,hb0,hs0⟩
 go_wp2_with ((with_reducible refine wpList_at (.load 163 (.tmp 1)) rfl ?_);refine wpList_load_row rfl 163 (.tmp 1) rfl (w.heap.size) rfl 17 130 Tryz.underlying163 info17 (u32V l) 163 hB0 HL.out ?_)
 refine (C1.out _).mono ?_
 rintro e w1 ⟨⟨c,rfl,hC,hv⟩,hb1⟩
 have hB1:=hB0.below hb1 (by omega)
 have hZ1:=hZ0.below hb1 (by omega)
 have hbe1:=hb0.trans (hb1.mono hb0.size)
 have hs1:=hb1.size
 have htop:=TOP.out c hC hv
 have HCL:=hide (L17 hC.1)
 have G0:=u32V_get c 0 (by rw[hC.1];decide)
 have G16:=u32V_get c 16 (by rw[hC.1];decide)
 obtain ⟨y,z,p,s,n1,n2,n3,n4,n5,n6,n7⟩:=fold_nums (c.getD 0 0) (c.getD 16 0) (hC.2 0 (by decide)) htop
 have hfl:Pol.foldL c=(c.set 16 z).set 0 s:=by rw[n6,n7];rfl
 have C2:=hide (fun w=>carry_any (Pol.foldL c) w ((Pol.foldL_len c).trans hC.1) (Pol.foldL_at hC htop))
 have V2:=hide (And.intro (Pol.foldL_lt hC (Nat.lt_of_le_of_lt htop (by decide))) ((Pol.foldL_mod hC.1).trans (by rw[hv])))
 have HFL:=hide hfl
 have HF:=hide (L17 ((Pol.foldL_len c).trans hC.1))
 generalize Pol.foldL c=fl at *
 generalize c.getD 0 0=x at *
 generalize c.getD 16 0=t at *
 clear hC hv htop hfl C1 TOP n5 n6 n7
 go_wp2_with (first | ((with_reducible refine wpList_at (.store 163 (.tmp 1) (.tmp 5)) rfl ?_);refine wpList_store_row rfl 163 (.tmp 1) (.tmp 5) rfl (w.heap.size) rfl 17 info17 (u32V c) rfl HCL.out (u32V_one _) (u32V l) 163 hB1 HL.out ?_;intro w2 hB2 hG2) | (with_reducible refine wpList_stop (.indexAddr 163 (.tmp 1) (.const (.int .i64 16))) rfl ?_))
 refine wpList_letterW (fun w'=>Blk w' (w.heap.size) 163 (u32V c)∧Blk w' (w.heap.size+1) 163 (u32V (zeros32 17))∧Below w.heap.size w w'∧w.heap.size+1<w'.heap.size) ⟨hB2,hZ1.grown hG2 (by first | (simp;done) | (simp;omega)),hbe1.trans (RowKit.Below.of_grown hG2 (Nat.le_refl _) (by omega)),by have:=hG2.size;omega⟩ ?_
 rintro w3 ⟨hB3,hZ3,hb3,hs3⟩
 clear hB0 hZ0 hb0 hs0 hB1 hZ1 hbe1 hs1 hb1 hB2 hG2
 have c16:=hB3.cell G16
 have c0:=hB3.cell G0
 have f:=hB3.frozen
 have hB4:=hB3.setCell_same 16 (.int .u32 (z:Nat))
 rw[u32V_put] at hB4
 have hB5:=hB4.setCell_same 0 (.int .u32 (s:Nat))
 rw[u32V_put,←HFL.out] at hB5
 have f4:=hB4.frozen
 have HB5:=hide hB5
 have HZ5:=hide ((hZ3.setCell_other ⟨w.heap.size,16,none⟩ (.int .u32 (z:Nat)) (by first | (simp;done) | (simp;omega))).setCell_other ⟨w.heap.size,0,none⟩ (.int .u32 (s:Nat)) (by first | (simp;done) | (simp;omega)))
 have HBE5:=hide ((hb3.setCell (p:=⟨w.heap.size,16,none⟩) (Nat.le_refl _) (.int .u32 (z:Nat))).setCell (p:=⟨w.heap.size,0,none⟩) (Nat.le_refl _) (.int .u32 (s:Nat)))
 clear hB5 hB4 hZ3 hb3
 go_wp2_with (with_reducible refine wpList_stop (.load 163 (.tmp 1)) rfl ?_)
 refine wpList_letterW (fun w'=>Blk w' (w.heap.size) 163 (u32V fl)∧Blk w' (w.heap.size+1) 163 (u32V (zeros32 17))∧Below w.heap.size w w'∧w.heap.size+1<w'.heap.size) ⟨HB5.out,HZ5.out,HBE5.out,by simp[World.setCell];omega⟩ ?_
 rintro w6 ⟨hB6,hZ6,hb6,hs6⟩
 clear HB5 HZ5 HBE5 c16 c0 f f4 hB3 hs3
 go_wp2_with ((with_reducible refine wpList_at (.load 163 (.tmp 1)) rfl ?_);refine wpList_load_row rfl 163 (.tmp 1) rfl (w.heap.size) rfl 17 130 Tryz.underlying163 info17 (u32V fl) 163 hB6 HF.out ?_)
 refine (C2.out _).mono ?_
 rintro e w7 ⟨⟨c2,rfl,hC2,hv2⟩,hb7⟩
 have hZ7:=hZ6.below hb7 (by omega)
 have hbe7:=hb6.trans (hb7.mono hb6.size)
 go_wp2_with ((with_reducible refine wpList_at (.store 163 (.tmp 2) (.tmp 20)) rfl ?_);refine wpList_store_row rfl 163 (.tmp 2) (.tmp 20) rfl (w.heap.size+1) rfl 17 info17 (u32V c2) rfl (L17 hC2.1) (u32V_one _) (u32V (zeros32 17)) 163 hZ7 LZ17 ?_;intro w9 hB9 hG9)
 exact ret_rowB Tryz.results213 (w.heap.size+1) rfl 17 130 Tryz.underlying163 info17 (u32V c2) 163 hB9 (L17 hC2.1) rfl ⟨⟨_,rfl,⟨hC2,by rw[hv2];exact V2.out.1⟩,by rw[hv2];exact V2.out.2⟩,hbe7.trans (RowKit.Below.of_grown hG9 (by omega) hbe7.size)⟩
set_option maxRecDepth 100000 in
set_option maxHeartbeats 1600000 in
theorem leastOf_any (l:List Nat) (w:World) (h:Pol.Fold l):
  Calls Tryz.prog 131 #[.agg (u32V l).toArray] w fun e w'=>(∃ c,e = .returned (.agg (u32V c).toArray)∧Pol.Car c∧Dig.val c=Dig.val l%Pol.P)∧Below w.heap.size w w':=by
 have hl:=h.1.1
 have h0:=h.at 0
 obtain ⟨s,hs⟩:∃ s:Nat,s=l.getD 0 0+5:=⟨_,rfl⟩
 have n1:(((l.getD 0 0:Nat):Int)+5)%4294967296=(s:Int):=by omega
 have hml:(l.set 0 s).length=17:=by simpa using hl
 have hmv:Dig.val (l.set 0 s)=Dig.val l+5:=by
  have h1:=Dig.val_put l 0 s (by omega)
  rw[Nat.pow_zero,Nat.one_mul,Nat.one_mul,hs] at h1
  rw[hs]
  omega
 have hmd:∀ i,(l.set 0 s).getD i 0<4278190080:=fun i=>by
  rw[getD_set _ _ _ _ (by omega)]
  split
  ·omega
  ·have:=h.at i;omega
 have C1:=hide (fun w=>carry_any (l.set 0 s) w hml hmd)
 have HL:=hide (L17 hl)
 have HM:=hide (L17 hml)
 have G0:=u32V_get l 0 (by omega)
 have HV:=hide hmv
 have HF:=hide h
 clear hml hmv hmd hl h hs h0
 generalize l.getD 0 0=x at *
 go_enter Tryz.func131,Tryz.ntmps131
 go_wp2_with (with_reducible refine wpList_stop (.load 163 (.tmp 1)) rfl ?_)
 refine wpList_letterW (fun w'=>Blk w' (w.heap.size) 163 (u32V l)∧Blk w' (w.heap.size+1) 163 (u32V (zeros32 17))∧Below w.heap.size w w'∧w'.heap.size=w.heap.size+1+1) ⟨(Blk.new rfl rfl).alloc _,Blk.new (by simp) rfl,((Below.refl _ _).alloc (Nat.le_refl _) _).alloc (by simp) _,by simp⟩ ?_
 rintro w0 ⟨hB0,hZ0,hb0,hs0⟩
 go_wp2_with (first | ((with_reducible refine wpList_at (.load 163 (.tmp 1)) rfl ?_);refine wpList_load_row rfl 163 (.tmp 1) rfl (w.heap.size) rfl 17 130 Tryz.underlying163 info17 (u32V l) 163 hB0 HL.out ?_) | (with_reducible refine wpList_stop (.store 163 (.tmp 3) (.tmp 4)) rfl ?_))
 refine wpList_letterW (fun w'=>Blk w' (w.heap.size) 163 (u32V l)∧Blk w' (w.heap.size+1) 163 (u32V (zeros32 17))∧Blk w' (w.heap.size+1+1) 163 (u32V (zeros32 17))∧Below w.heap.size w w'∧w.heap.size+1+1<w'.heap.size) ⟨hB0.alloc _,hZ0.alloc _,Blk.new hs0.symm rfl,hb0.alloc (by omega) _,by simp;omega⟩ ?_
 rintro w1 ⟨hB1,hZ1,hM1,hb1,hs1⟩
 clear hB0 hZ0 hb0 hs0
 go_wp2_with (first | ((with_reducible refine wpList_at (.store 163 (.tmp 3) (.tmp 4)) rfl ?_);refine wpList_store_row rfl 163 (.tmp 3) (.tmp 4) rfl (w.heap.size+1+1) rfl 17 info17 (u32V l) rfl HL.out (u32V_one _) (u32V (zeros32 17)) 163 hM1 LZ17 ?_;intro w2 hM2 hG2) | (with_reducible refine wpList_stop (.indexAddr 163 (.tmp 3) (.const (.int .i64 0))) rfl ?_))
 refine wpList_letterW (fun w'=>Blk w' (w.heap.size) 163 (u32V l)∧Blk w' (w.heap.size+1) 163 (u32V (zeros32 17))∧Blk w' (w.heap.size+1+1) 163 (u32V l)∧Below w.heap.size w w'∧w.heap.size+1+1<w'.heap.size) ⟨hB1.grown hG2 (by first | (simp;done) | (simp;omega)),hZ1.grown hG2 (by first | (simp;done) | (simp;omega)),hM2,hb1.trans (RowKit.Below.of_grown hG2 (by omega) (by omega)),by have:=hG2.size;omega⟩ ?_
 rintro w3 ⟨hB3,hZ3,hM3,hb3,hs3⟩
 clear hB1 hZ1 hM1 hb1 hs1 hM2 hG2
 have c0:=hM3.cell G0
 have f:=hM3.frozen 0
 have hM4:=hM3.setCell_same 0 (.int .u32 (s:Nat))
 rw[u32V_put] at hM4
 have HM4:=hide hM4
 have HB4:=hide (hB3.setCell_other ⟨w.heap.size+1+1,0,none⟩ (.int .u32 (s:Nat)) (by first | (simp;done) | (simp;omega)))
 have HZ4:=hide (hZ3.setCell_other ⟨w.heap.size+1+1,0,none⟩ (.int .u32 (s:Nat)) (by first | (simp;done) | (simp;omega)))
 have HBE4:=hide (hb3.setCell (p:=⟨w.heap.size+1+1,0,none⟩) (by simp;omega) (.int .u32 (s:Nat)))
 generalize l.set 0 s=m at *
 clear hM4 hB3 hZ3 hb3 hM3
 go_wp2_with (with_reducible refine wpList_stop (.load 163 (.tmp 3)) rfl ?_)
 refine wpList_letterW (fun w'=>Blk w' (w.heap.size) 163 (u32V l)∧Blk w' (w.heap.size+1) 163 (u32V (zeros32 17))∧Blk w' (w.heap.size+1+1) 163 (u32V m)∧Below w.heap.size w w'∧w.heap.size+1+1<w'.heap.size) ⟨HB4.out,HZ4.out,HM4.out,HBE4.out,by simp[World.setCell];omega⟩ ?_
 rintro w5 ⟨hB5,hZ5,hM5,hb5,hs5⟩
 clear HB4 HZ4 HM4 HBE4 c0 f hs3
 go_wp2_with ((with_reducible refine wpList_at (.load 163 (.tmp 3)) rfl ?_);refine wpList_load_row rfl 163 (.tmp 3) rfl (w.heap.size+1+1) rfl 17 130 Tryz.underlying163 info17 (u32V m) 163 hM5 HM.out ?_)
 refine (C1.out _).mono ?_
 rintro e w6 ⟨⟨c,rfl,hC,hv⟩,hb6⟩
 have hB6:=hB5.below hb6 (by omega)
 have hZ6:=hZ5.below hb6 (by omega)
 have hM6:=hM5.below hb6 (by omega)
 have hbe6:=hb5.trans (hb6.mono hb5.size)
 have hs6:w.heap.size+1+1<w6.heap.size:=Nat.lt_of_lt_of_le hs5 hb6.size
 have LT:=hide (fun h=>Pol.least_lt hC (hv.trans HV.out) h)
 have GE:=hide (fun h=>Pol.least_ge HF.out hC (hv.trans HV.out) h)
 have hcl:=hC.1
 have HC:=hide hC
 have G16:=u32V_get c 16 (by omega)
 have HCL:=hide (L17 hcl)
 have ht:c.getD 16 0<4294967296:=by
  rw[hC.top,hv]
  refine (Nat.div_lt_iff_lt_mul (by decide)).2 (Nat.lt_of_le_of_lt (Nat.le_of_eq HV.out) ?_)
  have:=HF.out.2
  have h2:2*Pol.P+5<4294967296*256 ^ 16:=by unfold Pol.P;decide
  omega
 clear hB5 hZ5 hM5 hb5 hs5 hb6 hC hv C1 hcl
 generalize hst:c.getD 16 0=t at *
 have HST:=hide hst
 clear hst
 go_wp2_with (first | ((with_reducible refine wpList_at (.store 163 (.tmp 3) (.tmp 10)) rfl ?_);refine wpList_store_row rfl 163 (.tmp 3) (.tmp 10) rfl (w.heap.size+1+1) rfl 17 info17 (u32V c) rfl HCL.out (u32V_one _) (u32V m) 163 hM6 HM.out ?_;intro w7 hM7 hG7) | (with_reducible refine wpList_stop (.indexAddr 163 (.tmp 3) (.const (.int .i64 16))) rfl ?_))
 refine wpList_letterW (fun w'=>Blk w' (w.heap.size) 163 (u32V l)∧Blk w' (w.heap.size+1) 163 (u32V (zeros32 17))∧Blk w' (w.heap.size+1+1) 163 (u32V c)∧Below w.heap.size w w'∧w.heap.size+1+1<w'.heap.size) ⟨hB6.grown hG7 (by first | (simp;done) | (simp;omega)),hZ6.grown hG7 (by first | (simp;done) | (simp;omega)),hM7,hbe6.trans (RowKit.Below.of_grown hG7 (by omega) (by omega)),by have:=hG7.size;omega⟩ ?_
 rintro w8 ⟨hB8,hZ8,hM8,hb8,hs8⟩
 clear hB6 hZ6 hM6 hbe6 hs6 hM7 hG7
 have c16:=hM8.cell G16
 by_cases h4:t<4
 ·have j4:(t:Int)<4:=by omega
  have hfin:=LT.out h4
  have HFIN:=hide (And.intro HF.out.1 hfin)
  clear hfin LT GE
  go_wp2_with (first | ((with_reducible refine wpList_at (.load 163 (.tmp 1)) rfl ?_);refine wpList_load_row rfl 163 (.tmp 1) rfl (w.heap.size) rfl 17 130 Tryz.underlying163 info17 (u32V l) 163 hB8 HL.out ?_) | ((with_reducible refine wpList_at (.store 163 (.tmp 2) (.tmp 14)) rfl ?_);refine wpList_store_row rfl 163 (.tmp 2) (.tmp 14) rfl (w.heap.size+1) rfl 17 info17 (u32V l) rfl HL.out (u32V_one _) (u32V (zeros32 17)) 163 hZ8 LZ17 ?_;intro w9 hB9 hG9))
  exact ret_rowB Tryz.results131 (w.heap.size+1) rfl 17 130 Tryz.underlying163 info17 (u32V l) 163 hB9 HL.out rfl ⟨⟨_,rfl,HFIN.out⟩,hb8.trans (RowKit.Below.of_grown hG9 (by omega) hb8.size)⟩
 ·obtain ⟨q,hq⟩:∃ q:Nat,q=t-4:=⟨_,rfl⟩
  have j4:¬ (t:Int)<4:=by omega
  have n2:((t:Int)-4)%4294967296=(q:Int):=by omega
  have n3:(t:Int)-4=(q:Int):=by omega
  have hfin:=GE.out h4
  rw[←hq] at hfin
  have f:=hM8.frozen 16
  have hM9:=hM8.setCell_same 16 (.int .u32 (q:Nat))
  rw[u32V_put] at hM9
  have HQL:=hide (L17 hfin.1.1)
  have HFIN:=hide hfin
  have HM9:=hide hM9
  have HZ9:=hide (hZ8.setCell_other ⟨w.heap.size+1+1,16,none⟩ (.int .u32 (q:Nat)) (by first | (simp;done) | (simp;omega)))
  have HBE9:=hide (hb8.setCell (p:=⟨w.heap.size+1+1,16,none⟩) (by simp;omega) (.int .u32 (q:Nat)))
  generalize c.set 16 q=c2 at *
  clear hfin LT GE hM9 hq h4 hZ8 hb8 hB8
  go_wp2_with (with_reducible refine wpList_stop (.load 163 (.tmp 3)) rfl ?_)
  refine wpList_letterW (fun w'=>Blk w' (w.heap.size+1) 163 (u32V (zeros32 17))∧Blk w' (w.heap.size+1+1) 163 (u32V c2)∧Below w.heap.size w w') ⟨HZ9.out,HM9.out,HBE9.out⟩ ?_
  rintro wA ⟨hZA,hMA,hbA⟩
  go_wp2_with (first | ((with_reducible refine wpList_at (.load 163 (.tmp 3)) rfl ?_);refine wpList_load_row rfl 163 (.tmp 3) rfl (w.heap.size+1+1) rfl 17 130 Tryz.underlying163 info17 (u32V c2) 163 hMA HQL.out ?_) | ((with_reducible refine wpList_at (.store 163 (.tmp 2) (.tmp 19)) rfl ?_);refine wpList_store_row rfl 163 (.tmp 2) (.tmp 19) rfl (w.heap.size+1) rfl 17 info17 (u32V c2) rfl HQL.out (u32V_one _) (u32V (zeros32 17)) 163 hZA LZ17 ?_;intro wB hBB hGB))
  exact ret_rowB Tryz.results131 (w.heap.size+1) rfl 17 130 Tryz.underlying163 info17 (u32V c2) 163 hBB HQL.out rfl ⟨⟨_,rfl,HFIN.out⟩,hbA.trans (RowKit.Below.of_grown hGB (by omega) hbA.size)⟩
theorem times_nums1 (X x y:Nat) (hX:X≤700000000) (hx:x<512) (hy:y<256):∃ Y:Nat,Y=X+x*y∧((X:Int)+(x:Int)*(y:Int))%4294967296=(Y:Int)∧(X:Int)+(x:Int)*(y:Int)=(Y:Int)∧(Y:Int)%4294967296=(Y:Int):=by
 have h1:x*y≤130305:=Nat.le_trans (Nat.mul_le_mul (show x≤511 by omega) (show y≤255 by omega)) (by decide)
 have h2:((x:Int)*(y:Int))=((x*y:Nat):Int):=(Int.natCast_mul x y).symm
 rw[h2]
 generalize x*y=q at *
 exact ⟨X+q,rfl,by omega,by omega,by omega⟩
theorem times_nums2 (X x y:Nat) (hX:X≤700000000) (hx:x<512) (hy:y<256):∃ Y p:Nat,Y=X+320*(x*y)∧(320*(x:Int))%4294967296=(p:Int)∧((X:Int)+(p:Int)*(y:Int))%4294967296=(Y:Int)∧(X:Int)+(p:Int)*(y:Int)=(Y:Int)∧(Y:Int)%4294967296=(Y:Int):=by
 have h1:x*y≤130305:=Nat.le_trans (Nat.mul_le_mul (show x≤511 by omega) (show y≤255 by omega)) (by decide)
 have h2:((320*x:Nat):Int)*(y:Int)=((320*(x*y):Nat):Int):=by rw[←Int.natCast_mul,Nat.mul_assoc]
 refine ⟨X+320*(x*y),320*x,rfl,by omega,?_,?_,by omega⟩
 ·rw[h2];omega
 ·rw[h2];omega
theorem conv_zero (a b:List Nat) (i:Nat):Pol.conv a b i+320*Pol.wrapc a b i 0=sm (i+1) (fun j=>a.getD j 0*b.getD (i-j) 0):=by
 rw[show Pol.wrapc a b i 0=0 from rfl,Nat.mul_zero,Nat.add_zero]
 rfl
theorem wrapc_succ (a b:List Nat) (i q:Nat):Pol.wrapc a b i (q+1)=Pol.wrapc a b i q+a.getD (i+1+q) 0*b.getD (16-q) 0:=rfl
theorem conv_bound {c k i q:Nat} (h1:c≤(i+1)*130305) (h2:k≤q*130305) (hi:i<17) (hq:q≤16):c+320*k≤700000000:=by omega
theorem wrap_nums (i j q:Nat) (hi:i<17) (hj:j<17) (h:j=i+1+q):∃ k s:Nat,k=16-q∧k<17∧IntKind.i64.wrap (17+(i:Int))=(s:Int)∧wrap64 (17+(i:Int))=(s:Int)∧IntKind.i64.wrap ((s:Int)-(j:Int))=(k:Int)∧wrap64 ((s:Int)-(j:Int))=(k:Int):=by
 refine ⟨16-q,17+i,rfl,by omega,?_,?_,?_,?_⟩
 ·exact (IntWalk.i64_in _ (by omega)).trans (by omega)
 ·exact (IntWalk.wrap64_in _ (by omega)).trans (by omega)
 ·exact (IntWalk.i64_in _ (by omega)).trans (by omega)
 ·exact (IntWalk.wrap64_in _ (by omega)).trans (by omega)
theorem set_again (o:List Nat) (i x y:Nat):(o.set i x).set i y=o.set i y:=by simp
set_option maxRecDepth 100000 in
set_option maxHeartbeats 4000000 in
theorem times_any (a b:List Nat) (w:World) (ha:a.length=17) (hb:b.length=17) (hda:∀ i,a.getD i 0<512) (hdb:∀ i,b.getD i 0<256):
  Calls Tryz.prog 185 #[.agg (u32V a).toArray,.agg (u32V b).toArray] w fun e w'=>(∃ c,e = .returned (.agg (u32V c).toArray)∧Pol.Fold c∧Dig.val c%Pol.P=Dig.val a*Dig.val b%Pol.P)∧Below w.heap.size w w':=by
 have DA:=hide hda
 have DB:=hide hdb
 have CL:=hide (fun i=>Pol.conv_le a b i hda hdb)
 have WL:=hide (fun i=>Pol.wrapc_le a b i hda hdb)
 have MV:=hide (fun l=>Pol.mulD_val a b l (by omega) (by omega))
 have AG:=hide (fun j (hj:j<17)=>u32V_get a j (by omega))
 have BG:=hide (fun j (hj:j<17)=>u32V_get b j (by omega))
 clear hda hdb ha hb
 go_enter Tryz.func185,Tryz.ntmps185
 go_wp2
 go_loopw [6] (fun vi wr=>∃ (i:Nat) (o:List Nat),i≤17∧vi = .int .i64 (i:Nat)∧o.length=17∧(∀ j,o.getD j 0=if j<i then Pol.mulD a b j else 0)∧Blk wr (w.heap.size) 163 (u32V a)∧Blk wr (w.heap.size+1) 163 (u32V b)∧Blk wr (w.heap.size+1+1) 163 (u32V (zeros32 17))∧Blk wr (w.heap.size+1+1+1) 163 (u32V o)∧Below w.heap.size w wr) (fun i _=>17-(intOf i).toNat)
 case atStart=>
  refine ⟨0,zeros32 17,by omega,rfl,zeros32_len 17,(fun j=>?_),(((Blk.new rfl rfl).alloc _).alloc _).alloc _,((Blk.new (by simp) rfl).alloc _).alloc _,(Blk.new (by simp) rfl).alloc _,Blk.new (by simp) rfl,((((Below.refl _ _).alloc (Nat.le_refl _) _).alloc (by simp) _).alloc (by simp;omega) _).alloc (by simp;omega) _⟩
  rw[if_neg (by omega),List.getD_eq_getElem?_getD,zeros32,List.getElem?_replicate]
  split <;> rfl
 case round=>
  obtain ⟨i,o,hi,rfl,hol,hO,hA,hB,hR,hW,hbe⟩:=hrel
  by_cases hlt:i<17
  ·have ji:(i:Int)<17:=by omega
   have hoi:o.set i 0=o:=list_getD (by simp) fun j hj=>by
    rw[getD_set _ _ _ _ (by omega)]
    split
    ·rename_i h;subst h;rw[hO,if_neg (by omega)]
    ·rfl
   have HO:=hide hO
   have HOL:=hide hol
   have HOI:=hide hoi
   have HW0:=hide (show Blk wr (w.heap.size+1+1+1) 163 (u32V (o.set i (0))) by rw[hoi];exact hW)
   have HA0:=hide hA
   have HB0:=hide hB
   have HR0:=hide hR
   have HBE0:=hide hbe
   clear hO hoi hW hA hB hR hbe
   go_wp2
   go_loopw [7] (fun vj wr=>∃ j:Nat,j≤i+1∧vj = .int .i64 (j:Nat)∧Blk wr (w.heap.size) 163 (u32V a)∧Blk wr (w.heap.size+1) 163 (u32V b)∧Blk wr (w.heap.size+1+1) 163 (u32V (zeros32 17))∧Blk wr (w.heap.size+1+1+1) 163 (u32V (o.set i (sm j (fun j=>a.getD j 0*b.getD (i-j) 0))))∧Below w.heap.size w wr) (fun j _=>i+1-(intOf j).toNat)
   case atStart=>exact ⟨0,by omega,rfl,HA0.out,HB0.out,HR0.out,HW0.out,HBE0.out⟩
   case round=>
    clear HW0 HA0 HB0 HR0 HBE0
    obtain ⟨j,hj,rfl,hA,hB,hR,hW,hbe⟩:=hrel
    by_cases hlj:j≤i
    ·obtain ⟨k,hk⟩:∃ k:Nat,k=i-j:=⟨_,rfl⟩
     have q1:IntKind.i64.wrap ((i:Int)-(j:Int))=(k:Int):=(IntWalk.i64_in _ (by omega)).trans (by omega)
     have q2:wrap64 ((i:Int)-(j:Int))=(k:Int):=(IntWalk.wrap64_in _ (by omega)).trans (by omega)
     have c0:=hW.cell (u32V_get (o.set i (sm j (fun j=>a.getD j 0*b.getD (i-j) 0))) i (by rw[List.length_set];omega))
     rw[getD_set _ _ _ _ (by omega),if_pos rfl] at c0
     have c1:=hA.cell (AG.out j (by omega))
     have c2:=hB.cell (BG.out k (by omega))
     have f0:=hW.frozen i
     obtain ⟨Y,hY,n1,n2,n3⟩:=times_nums1 (sm j (fun j=>a.getD j 0*b.getD (i-j) 0)) (a.getD j 0) (b.getD k 0) (Nat.le_trans (CL.out i j) (by omega)) (DA.out j) (DB.out k)
     have hY2:Y=sm (j+1) (fun j=>a.getD j 0*b.getD (i-j) 0):=by rw[hY,hk];rfl
     have hW2:=hW.setCell_same i (.int .u32 (Y:Nat))
     rw[u32V_put,set_again,hY2] at hW2
     rw[←hY2] at hW2
     have HW2:=hide hW2
     have HY2:=hide hY2
     have HA:=hide (hA.setCell_other ⟨w.heap.size+1+1+1,i,none⟩ (.int .u32 (Y:Nat)) (by first | (simp;done) | (simp;omega)))
     have HB:=hide (hB.setCell_other ⟨w.heap.size+1+1+1,i,none⟩ (.int .u32 (Y:Nat)) (by first | (simp;done) | (simp;omega)))
     have HR:=hide (hR.setCell_other ⟨w.heap.size+1+1+1,i,none⟩ (.int .u32 (Y:Nat)) (by first | (simp;done) | (simp;omega)))
     have HBE:=hide (hbe.setCell (p:=⟨w.heap.size+1+1+1,i,none⟩) (by simp;omega) (.int .u32 (Y:Nat)))
     have jj:(j:Int)≤(i:Int):=by omega
     have j17:(j:Int)<17:=by omega
     have jk:(k:Int)<17:=by omega
     generalize sm j (fun j=>a.getD j 0*b.getD (i-j) 0)=X at *
     generalize a.getD j 0=x at *
     generalize b.getD k 0=y at *
     clear hW2 hY hY2 hk hA hB hR hW hbe
     go_wp2
     go_region
     go_wp2
     go_roundw
     case rel=>exact ⟨j+1,by omega,by go_num,HA.out,HB.out,HR.out,by rw[←HY2.out];exact HW2.out,HBE.out.drew⟩
     case measure=>simp[intOf];omega
    ·obtain rfl:j=i+1:=by omega
     have jj:¬ ((i+1:Nat):Int)≤(i:Int):=by omega
     have jj2:¬ (i:Int)+1≤(i:Int):=by omega
     have HW0:=hide (show Blk wr (w.heap.size+1+1+1) 163 (u32V (o.set i (Pol.conv a b i+320*Pol.wrapc a b i 0))) by rw[conv_zero];exact hW)
     have HA0:=hide hA
     have HB0:=hide hB
     have HR0:=hide hR
     have HBE0:=hide hbe
     clear hW hA hB hR hbe
     go_wp2
     go_loopw [8] (fun vj wr=>∃ q j:Nat,j=i+1+q∧q≤16-i∧vj = .int .i64 (j:Nat)∧Blk wr (w.heap.size) 163 (u32V a)∧Blk wr (w.heap.size+1) 163 (u32V b)∧Blk wr (w.heap.size+1+1) 163 (u32V (zeros32 17))∧Blk wr (w.heap.size+1+1+1) 163 (u32V (o.set i (Pol.conv a b i+320*Pol.wrapc a b i q)))∧Below w.heap.size w wr) (fun j _=>17-(intOf j).toNat)
     case atStart=>exact ⟨0,i+1,by omega,by omega,by go_num,HA0.out,HB0.out,HR0.out,HW0.out,HBE0.out⟩
     case round=>
      clear HW0 HA0 HB0 HR0 HBE0 jj jj2 hj hlj
      obtain ⟨q,j,hjq,hq,rfl,hA,hB,hR,hW,hbe⟩:=hrel
      by_cases hlj:j<17
      ·obtain ⟨k,s,hk,hk17,q0,q3,q1,q2⟩:=wrap_nums i j q hlt hlj hjq
       have c0:=hW.cell (u32V_get (o.set i (Pol.conv a b i+320*Pol.wrapc a b i q)) i (by rw[List.length_set];omega))
       rw[getD_set _ _ _ _ (by omega),if_pos rfl] at c0
       have c1:=hA.cell (AG.out j hlj)
       have c2:=hB.cell (BG.out k hk17)
       have f0:=hW.frozen i
       have hbd:Pol.conv a b i+320*Pol.wrapc a b i q≤700000000:=by
        exact conv_bound (CL.out i (i+1)) (WL.out i q) hlt (Nat.le_trans hq (Nat.sub_le _ _))
       obtain ⟨Y,p0,hY,n0,n1,n2,n3⟩:=times_nums2 (Pol.conv a b i+320*Pol.wrapc a b i q) (a.getD j 0) (b.getD k 0) hbd (DA.out j) (DB.out k)
       have hY2:Y=Pol.conv a b i+320*Pol.wrapc a b i (q+1):=by
        rw[hY,hjq,hk,wrapc_succ,Nat.mul_add,Nat.add_assoc]
       have hW2:=hW.setCell_same i (.int .u32 (Y:Nat))
       rw[u32V_put,set_again] at hW2
       have HW2:=hide hW2
       have HY2:=hide hY2
       have HA:=hide (hA.setCell_other ⟨w.heap.size+1+1+1,i,none⟩ (.int .u32 (Y:Nat)) (by first | (simp;done) | (simp;omega)))
       have HB:=hide (hB.setCell_other ⟨w.heap.size+1+1+1,i,none⟩ (.int .u32 (Y:Nat)) (by first | (simp;done) | (simp;omega)))
       have HR:=hide (hR.setCell_other ⟨w.heap.size+1+1+1,i,none⟩ (.int .u32 (Y:Nat)) (by first | (simp;done) | (simp;omega)))
       have HBE:=hide (hbe.setCell (p:=⟨w.heap.size+1+1+1,i,none⟩) (by simp;omega) (.int .u32 (Y:Nat)))
       have j17:(j:Int)<17:=by omega
       have jk:(k:Int)<17:=by omega
       have HJQ:=hide hjq
       generalize Pol.conv a b i+320*Pol.wrapc a b i q=X at *
       generalize a.getD j 0=x at *
       generalize b.getD k 0=y at *
       clear hW2 hY hY2 hk hA hB hR hW hbe hbd hjq
       go_wp2
       go_region
       go_wp2
       go_roundw
       case rel=>exact ⟨q+1,j+1,by have:=HJQ.out;omega,by have:=HJQ.out;omega,by go_num,HA.out,HB.out,HR.out,by rw[←HY2.out];exact HW2.out,HBE.out.drew⟩
       case measure=>simp[intOf];omega
      ·obtain rfl:q=16-i:=by omega
       have hO2:∀ p,(o.set i (Pol.mulD a b i)).getD p 0=if p<i+1 then Pol.mulD a b p else 0:=fun p=>by
        rw[getD_set _ _ _ _ (by have:=HOL.out;omega),HO.out p]
        by_cases he:p=i
        ·subst he;rw[if_pos rfl,if_pos (by omega)]
        ·rw[if_neg he]
         by_cases h1:p<i
         ·rw[if_pos h1,if_pos (by omega)]
         ·rw[if_neg h1,if_neg (by omega)]
       have HO2:=hide hO2
       have HL2:=hide (show (o.set i (Pol.mulD a b i)).length=17 by have:=HOL.out;simpa using this)
       have HW2:=hide (show Blk wr (w.heap.size+1+1+1) 163 (u32V (o.set i (Pol.mulD a b i))) from hW)
       generalize o.set i (Pol.mulD a b i)=o2 at *
       have HA:=hide hA
       have HB:=hide hB
       have HR:=hide hR
       have HBE:=hide hbe
       have j17:¬ (j:Int)<17:=by omega
       clear hO2 hA hB hR hW hbe hjq hq
       go_wp2
       go_roundw
       case rel=>exact ⟨i+1,o2,by omega,by go_num,HL2.out,HO2.out,HA.out,HB.out,HR.out,HW2.out,HBE.out⟩
       case measure=>simp[intOf];omega
  ·obtain rfl:i=17:=by omega
   have hv:=MV.out o hol (fun j hj=>by rw[hO,if_pos hj])
   have hd:∀ j,o.getD j 0≤1073741824:=fun j=>by
    rw[hO]
    split
    ·exact Nat.le_trans (conv_bound (CL.out j (j+1)) (WL.out j (16-j)) (by assumption) (by omega)) (by decide)
    ·decide
   have C1:=hide (fun w=>fold_any o w hol hd)
   rw[hv] at C1
   have HCL:=hide (L17 hol)
   clear hO hv hd CL WL MV AG BG DA DB
   go_wp2_with ((with_reducible refine wpList_at (.load 163 (.tmp 5)) rfl ?_);refine wpList_load_row rfl 163 (.tmp 5) rfl (w.heap.size+1+1+1) rfl 17 130 Tryz.underlying163 info17 (u32V o) 163 hW HCL.out ?_)
   refine (C1.out _).mono ?_
   rintro e w7 ⟨⟨c2,rfl,hC2,hv2⟩,hb7⟩
   have hZ7:=hR.below hb7 hR.lt
   have hbe7:=hbe.trans (hb7.mono hbe.size)
   go_wp2_with ((with_reducible refine wpList_at (.store 163 (.tmp 4) (.tmp 55)) rfl ?_);refine wpList_store_row rfl 163 (.tmp 4) (.tmp 55) rfl (w.heap.size+1+1) rfl 17 info17 (u32V c2) rfl (L17 hC2.1.1) (u32V_one _) (u32V (zeros32 17)) 163 hZ7 LZ17 ?_;intro w9 hB9 hG9)
   exact ret_rowB Tryz.results185 (w.heap.size+1+1) rfl 17 130 Tryz.underlying163 info17 (u32V c2) 163 hB9 (L17 hC2.1.1) rfl ⟨⟨_,rfl,hC2,hv2⟩,hbe7.trans (RowKit.Below.of_grown hG9 (by omega) hbe7.size)⟩
theorem take_digit (s:ByteArray) (i:Nat) (h:i<s.size):digitsOf (s.data.toList.take (i+1))=digitsOf (s.data.toList.take i)++[s[i].toNat]:=by
 rw[List.take_succ_eq_append_getElem (by rw[text_len];exact h),digitsOf,digitsOf,List.map_append,Array.getElem_toList]
 rfl
theorem take_digits_len (s:ByteArray) (i:Nat) (h:i≤s.size):(digitsOf (s.data.toList.take i)).length=i:=by
 rw[digitsOf_len,List.length_take,text_len];omega
set_option maxRecDepth 100000 in
set_option maxHeartbeats 1600000 in
theorem numberOf_any (s:ByteArray) (w:World) (hs:s.size=16):
  Calls Tryz.prog 128 #[.string s] w fun e w'=>e = .returned (.agg (u32V (digitsOf s.data.toList++[0])).toArray)∧Below w.heap.size w w':=by
 have hall:digitsOf (s.data.toList.take 16)++zeros32 1=digitsOf s.data.toList++[0]:=by rw[List.take_of_length_le (by rw[text_len];omega)];rfl
 have hlen:(digitsOf (s.data.toList.take 16)++zeros32 1).length=17:=by rw[List.length_append,take_digits_len s 16 (by omega)];rfl
 have HA:=hide hall
 have HL:=hide (L17 hlen)
 clear hall hlen
 go_enter Tryz.func128,Tryz.ntmps128
 go_wp2
 go_loopw [4] (fun vi wr=>∃ i:Nat,i≤16∧vi = .int .i64 (i:Nat)∧Blk wr (w.heap.size) 163 (u32V (zeros32 17))∧Blk wr (w.heap.size+1) 163 (u32V (digitsOf (s.data.toList.take i)++zeros32 (17-i)))∧Below w.heap.size w wr) (fun i _=>16-(intOf i).toNat)
 case atStart=>exact ⟨0,by omega,rfl,(Blk.new rfl rfl).alloc _,Blk.new (by simp) rfl,((Below.refl _ _).alloc (Nat.le_refl _) _).alloc (by simp) _⟩
 case round=>
  obtain ⟨i,hi,rfl,hR,hB,hbe⟩:=hrel
  by_cases hlt:i<16
  ·have i1:i<s.size:=by omega
   have hB2:=hB.setCell_same i (.int .u32 ((s[i].toNat:Nat):Int))
   rw[u32V_set _ _ _ _ (take_digits_len s i (by omega)) (by omega),←take_digit s i i1,show 17-i-1=17-(i+1) by omega] at hB2
   have c0:=hB.cell (u32V_new (digitsOf (s.data.toList.take i)) (17-i) i (take_digits_len s i (by omega)) (by omega))
   have f0:=hB.frozen i
   have hx:=UInt8.toNat_lt s[i]
   have HB2:=hide hB2
   have HR:=hide (hR.setCell_other ⟨w.heap.size+1,i,none⟩ (.int .u32 ((s[i].toNat:Nat):Int)) (by first | (simp;done) | (simp;omega)))
   have HBE:=hide (hbe.setCell (p:=⟨w.heap.size+1,i,none⟩) (by simp) (.int .u32 ((s[i].toNat:Nat):Int)))
   have e0:((s[i].toNat:Nat):Int)%4294967296=((s[i].toNat:Nat):Int):=by omega
   clear hx
   have js:(i:Int)<(s.size:Int):=by omega
   have j16:(i:Int)<16:=by omega
   have j17:(i:Int)<17:=by omega
   clear hB2 hB hR hbe hs
   go_wp2
   go_roundw
   case rel=>exact ⟨i+1,by omega,by go_num,HR.out,HB2.out,HBE.out⟩
   case measure=>simp[intOf];omega
  ·obtain rfl:i=16:=by omega
   have js:¬ (16:Int)<(s.size:Int):=by omega
   have HB:=hide hB
   have HR:=hide hR
   have HBE:=hide hbe
   clear hB hR hbe
   go_wp2_with (first | ((with_reducible refine wpList_at (.load 163 (.tmp 3)) rfl ?_);refine wpList_load_row rfl 163 (.tmp 3) rfl (w.heap.size+1) rfl 17 130 Tryz.underlying163 info17 (u32V (digitsOf (s.data.toList.take 16)++zeros32 1)) 163 HB.out HL.out ?_) | ((with_reducible refine wpList_at (.store 163 (.tmp 2) (.tmp 21)) rfl ?_);refine wpList_store_row rfl 163 (.tmp 2) (.tmp 21) rfl (w.heap.size) rfl 17 info17 (u32V (digitsOf (s.data.toList.take 16)++zeros32 1)) rfl HL.out (u32V_one _) (u32V (zeros32 17)) 163 HR.out LZ17 ?_;intro w9 hB9 hG9))
   exact ret_rowB Tryz.results128 (w.heap.size) rfl 17 130 Tryz.underlying163 info17 (u32V (digitsOf (s.data.toList.take 16)++zeros32 1)) 163 hB9 HL.out rfl ⟨by rw[←HA.out],HBE.out.trans (RowKit.Below.of_grown hG9 (Nat.le_refl _) HBE.out.size)⟩
theorem clamp_nums (x:Nat) (h:x<256):bits .and .u32 (x:Int) 15=((x%16:Nat):Int)∧bits .and .u32 (x:Int) 252=((x-x%4:Nat):Int):=by
 have h1:=u32_and_nat x 15 (by omega) (by decide)
 have h2:=u32_and_nat x 252 (by omega) (by decide)
 rw[Pol.and15] at h1
 rw[Pol.and252 x h] at h2
 exact ⟨h1,h2⟩
theorem cat0_lt {l:List Nat} (h:Dig.Ok l) (i:Nat):(l++[0]).getD i 0<256:=by
 rw[Pol.cat0_getD];exact h.at i
set_option maxRecDepth 100000 in
set_option maxHeartbeats 1600000 in
theorem clamp_any (l:List Nat) (w:World) (hl:l.length=16) (hd:Dig.Ok l):
  Calls Tryz.prog 129 #[.agg (u32V (l++[0])).toArray] w fun e w'=>e = .returned (.agg (u32V (Pol.clL l 16++[0])).toArray)∧Below w.heap.size w w':=by
 have hl17:(l++[0]).length=17:=by simp[hl]
 have hLT:=cat0_lt hd
 have DONE:=hide (fun c i=>Pol.Cl2.done (c:=c) (i:=i) hl)
 have h16:(l++[0]).getD 16 0=0:=by rw[Pol.cat0_getD,List.getD_eq_getElem?_getD,List.getElem?_eq_none (by omega)];rfl
 generalize l++[0]=d at *
 go_enter Tryz.func129,Tryz.ntmps129
 go_wp2
 go_loopw [3] (fun vi wr=>∃ (i:Nat) (c:List Nat),i≤19∧i%4=3∧vi = .int .i64 (i:Nat)∧Pol.Cl1 d c i∧Blk wr (w.heap.size) 163 (u32V c)∧Blk wr (w.heap.size+1) 163 (u32V (zeros32 17))∧Below w.heap.size w wr) (fun i _=>19-(intOf i).toNat)
 case atStart=>exact ⟨3,d,by omega,rfl,rfl,Pol.Cl1.start d hl17,(Blk.new rfl rfl).alloc _,Blk.new (by simp) rfl,((Below.refl _ _).alloc (Nat.le_refl _) _).alloc (by simp) _⟩
 case round=>
  obtain ⟨i,c,hi,hm,rfl,hC,hB,hR,hbe⟩:=hrel
  have hcl:=hC.1
  by_cases hlt:i<16
  ·have c0:=hB.cell (u32V_get c i (by omega))
   rw[hC.at] at c0
   have f0:=hB.frozen i
   have n1:=(clamp_nums (d.getD i 0) (hLT i)).1
   have hst:=hC.step hm hlt
   have hB2:=hB.setCell_same i (.int .u32 ((d.getD i 0%16:Nat):Int))
   rw[u32V_put] at hB2
   generalize d.getD i 0%16=y at *
   generalize d.getD i 0=x at *
   have HST:=hide hst
   have HB2:=hide hB2
   have HR:=hide (hR.setCell_other ⟨w.heap.size,i,none⟩ (.int .u32 (y:Nat)) (by first | (simp;done) | (simp;omega)))
   have HBE:=hide (hbe.setCell (p:=⟨w.heap.size,i,none⟩) (Nat.le_refl _) (.int .u32 (y:Nat)))
   have ji:(i:Int)<17:=by omega
   have jj:(i:Int)<16:=by omega
   have HM:=hide hm
   clear hst hB2 hC hcl hB hR hbe hl17 hLT h16 hm hd hl
   go_wp2
   go_roundw
   case rel=>exact ⟨i+4,_,by have:=HM.out;omega,by have:=HM.out;omega,by go_num,HST.out,HB2.out,HR.out,HBE.out⟩
   case measure=>simp[intOf];omega
  ·have hC2:=hC.done (by omega)
   have ht:c.getD 16 0=0:=by rw[hC.2,if_neg (by omega),h16]
   have jj:¬ (i:Int)<16:=by omega
   have HC2:=hide hC2
   have HT:=hide ht
   have HB:=hide hB
   have HR:=hide hR
   have HBE:=hide hbe
   clear hC2 ht hB hR hbe hC hm
   go_wp2
   go_loopw [4] (fun vi wr=>∃ (i:Nat) (c:List Nat),i≤16∧i%4=0∧4≤i∧vi = .int .i64 (i:Nat)∧Pol.Cl2 d c i∧c.getD 16 0=0∧Blk wr (w.heap.size) 163 (u32V c)∧Blk wr (w.heap.size+1) 163 (u32V (zeros32 17))∧Below w.heap.size w wr) (fun i _=>16-(intOf i).toNat)
   case atStart=>exact ⟨4,c,by omega,rfl,by omega,rfl,HC2.out,HT.out,HB.out,HR.out,HBE.out⟩
   case round=>
    clear HC2 HT HB HR HBE hcl hlt hi jj
    obtain ⟨i,c,hi,hm,h4,rfl,hC,ht,hB,hR,hbe⟩:=hrel
    have hcl:=hC.1
    by_cases hlt:i<16
    ·have c0:=hB.cell (u32V_get c i (by omega))
     rw[hC.at hm hlt] at c0
     have f0:=hB.frozen i
     have n1:=(clamp_nums (d.getD i 0) (hLT i)).2
     have hst:=hC.step hm (by omega) hlt
     have ht2:(c.set i (d.getD i 0-d.getD i 0%4)).getD 16 0=0:=by rw[getD_set _ _ _ _ (by omega),if_neg (by omega)];exact ht
     have hB2:=hB.setCell_same i (.int .u32 ((d.getD i 0-d.getD i 0%4:Nat):Int))
     rw[u32V_put] at hB2
     generalize d.getD i 0-d.getD i 0%4=y at *
     generalize d.getD i 0=x at *
     have HST:=hide (And.intro hst ht2)
     have HB2:=hide hB2
     have HR:=hide (hR.setCell_other ⟨w.heap.size,i,none⟩ (.int .u32 (y:Nat)) (by first | (simp;done) | (simp;omega)))
     have HBE:=hide (hbe.setCell (p:=⟨w.heap.size,i,none⟩) (Nat.le_refl _) (.int .u32 (y:Nat)))
     have ji:(i:Int)<17:=by omega
     have jj:(i:Int)<16:=by omega
     have HM:=hide (And.intro hm h4)
     clear hst ht2 hB2 hC hcl hB hR hbe hl17 hLT h16 hm hd hl ht h4
     go_wp2
     go_roundw
     case rel=>exact ⟨i+4,_,by have:=HM.out;omega,by have:=HM.out;omega,by omega,by go_num,HST.out.1,HST.out.2,HB2.out,HR.out,HBE.out⟩
     case measure=>simp[intOf];omega
    ·have hfin:=DONE.out c i hC (by omega) ht
     have HL:=hide (L17 hcl)
     have jj:¬ (i:Int)<16:=by omega
     have HFIN:=hide hfin
     clear hfin DONE ht hm
     go_wp2_with (first | ((with_reducible refine wpList_at (.load 163 (.tmp 1)) rfl ?_);refine wpList_load_row rfl 163 (.tmp 1) rfl (w.heap.size) rfl 17 130 Tryz.underlying163 info17 (u32V c) 163 hB HL.out ?_) | ((with_reducible refine wpList_at (.store 163 (.tmp 2) (.tmp 23)) rfl ?_);refine wpList_store_row rfl 163 (.tmp 2) (.tmp 23) rfl (w.heap.size+1) rfl 17 info17 (u32V c) rfl HL.out (u32V_one _) (u32V (zeros32 17)) 163 hR LZ17 ?_;intro w9 hB9 hG9))
     exact ret_rowB Tryz.results129 (w.heap.size+1) rfl 17 130 Tryz.underlying163 info17 (u32V c) 163 hB9 HL.out rfl ⟨by rw[←HFIN.out],hbe.trans (RowKit.Below.of_grown hG9 (by omega) hbe.size)⟩
set_option maxRecDepth 100000 in
set_option maxHeartbeats 1600000 in
theorem lowBytes_any (l:List Nat) (w:World) (h:Pol.Car l):
  Calls Tryz.prog 133 #[.agg (u32V l).toArray] w fun e w'=>e = .returned (.string ⟨(leB (Dig.val l) 16).toArray⟩)∧Below w.heap.size w w':=by
 have XS:=hide (leB_succ (Dig.val l))
 have X0:=hide (show leB (Dig.val l) 0=[] from rfl)
 have DG:=hide (fun i hi=>h.digit i hi)
 have HH:=hide h
 have hl:=h.1
 generalize leB (Dig.val l)=xl at *
 clear h
 go_enter Tryz.func133,Tryz.ntmps133
 go_wp2
 refine wp_letterW (fun w'=>Blk w' w.heap.size 163 (u32V l)∧Blk w' (w.heap.size+1) 5 []∧Below w.heap.size w w'∧w.heap.size+1<w'.heap.size) ⟨(Blk.new rfl rfl).alloc _,Blk.new (by simp) rfl,((Below.refl _ _).alloc (Nat.le_refl _) _).alloc (by simp) _,by simp⟩ ?_
 rintro wb ⟨hB,hE,hbw,hsw⟩
 have HB:=hide hB
 have HBW:=hide hbw
 have HE:=hide hE
 clear hB hbw hE
 go_loopw [3,4] (fun vo vi wr=>∃ i:Nat,i≤16∧vi = .int .i64 (i:Nat)∧Row wr (w.heap.size+1) 5 1 vo i (u8L (xl i))∧Below (w.heap.size+1) wb wr) (fun _ i _=>16-(intOf i).toNat)
 case atStart=>exact ⟨0,by omega,rfl,by rw[X0.out];exact Row.zero (Nat.le_refl _) HE.out,Below.refl _ _⟩
 case round=>
  obtain ⟨i,hi,rfl,hrow,hbe⟩:=hrel
  have hsz:w.heap.size+1≤wr.heap.size:=Nat.le_trans (Nat.le_of_lt hsw) hbe.size
  by_cases hlt:i<16
  ·have hx:=HH.out.2 i hlt
   have hB2:=HB.out.below hbe (by omega)
   have c0:=hB2.cell (u32V_get l i (by omega))
   have hdg:=DG.out i hlt
   generalize l.getD i 0=x at *
   obtain ⟨y,hy⟩:∃ y:UInt8,y=UInt8.ofNat x:=⟨_,rfl⟩
   have e0:(x:Int)%256=((y.toNat:Nat):Int):=by rw[hy,UInt8.toNat_ofNat'];omega
   have hx2:xl (i+1)=xl i++[y]:=by rw[XS.out,←hdg,hy]
   have HX2:=hide hx2
   have HROW:=hide hrow
   have HBE:=hide hbe
   have jj:(i:Int)<16:=by omega
   have j17:(i:Int)<17:=by omega
   clear hx2 hdg hy hrow hbe hx hB2
   go_wp2_with (at_builtin;refine wpList_append_u8 rfl (.tmp 10) (.tmp 15) rfl (w.heap.size+1) _ i _ rfl (HROW.out.alloc _) ⟨wr.heap.size,0,none⟩ 1 1 [y] rfl rfl (one_news rfl (World.cell?_alloc_at _ _ _ _ rfl)) ?_ ?_ ?_;omega;(simp;omega);intro v1 w5 hr1 hg1 hat1)
   go_roundw
   case rel=>
    refine ⟨i+1,by omega,by go_num,by rw[HX2.out];exact hr1,?_⟩
    exact Below.grown (HBE.out.alloc hsz _) hg1 (by simp;omega) (fun k hk=>(HROW.out.lt k hk).1)
   case measure=>simp[intOf];omega
  ·obtain rfl:i=16:=by omega
   obtain ⟨ao,cap,rfl,hc1,hc2,hcv⟩:=Row.strAny hrow
   have HBE:=hide (HBW.out.trans (hbe.mono (Nat.le_succ _)))
   clear hrow hbe hc1 hc2
   go_wp2
   go_ret
   exact ⟨rfl,HBE.out⟩
set_option maxRecDepth 100000 in
set_option maxHeartbeats 1600000 in
theorem add_any (a b:List Nat) (w:World) (ha:a.length=17) (hb:b.length=17) (hda:∀ i,a.getD i 0<1073741824) (hdb:∀ i,b.getD i 0<1073741824):
  Calls Tryz.prog 132 #[.agg (u32V a).toArray,.agg (u32V b).toArray] w fun e w'=>(∃ c,e = .returned (.agg (u32V c).toArray)∧Pol.Car c∧Dig.val c=Dig.val a+Dig.val b)∧Below w.heap.size w w':=by
 have HBL:=hide (L17 hb)
 go_enter Tryz.func132,Tryz.ntmps132
 go_wp2
 go_loopw [5] (fun vi wr=>∃ (i:Nat) (c:List Nat),i≤17∧vi = .int .i64 (i:Nat)∧c.length=17∧(∀ j,c.getD j 0=if j<i then a.getD j 0+b.getD j 0 else a.getD j 0)∧Blk wr (w.heap.size) 163 (u32V c)∧Blk wr (w.heap.size+1) 163 (u32V b)∧Blk wr (w.heap.size+1+1) 163 (u32V (zeros32 17))∧Below w.heap.size w wr) (fun i _=>17-(intOf i).toNat)
 case atStart=>exact ⟨0,a,by omega,rfl,ha,(fun j=>by rw[if_neg (by omega)]),((Blk.new rfl rfl).alloc _).alloc _,(Blk.new (by simp) rfl).alloc _,Blk.new (by simp) rfl,(((Below.refl _ _).alloc (Nat.le_refl _) _).alloc (by simp) _).alloc (by simp;omega) _⟩
 case round=>
  obtain ⟨i,c,hi,rfl,hcl,hC,hA,hB,hR,hbe⟩:=hrel
  by_cases hlt:i<17
  ·have c0:=hA.cell (u32V_get c i (by omega))
   have c1:=hB.cell (u32V_get b i (by omega))
   have hci:c.getD i 0=a.getD i 0:=by rw[hC,if_neg (by omega)]
   rw[hci] at c0
   have f0:=hA.frozen i
   have x1:=hda i
   have x2:=hdb i
   obtain ⟨s,hs⟩:∃ s:Nat,s=a.getD i 0+b.getD i 0:=⟨_,rfl⟩
   have n1:(((a.getD i 0:Nat):Int)+((b.getD i 0:Nat):Int))%4294967296=(s:Int):=by omega
   have hC2:∀ j,(c.set i s).getD j 0=if j<i+1 then a.getD j 0+b.getD j 0 else a.getD j 0:=fun j=>by
    rw[getD_set _ _ _ _ (by omega),hC j]
    by_cases he:j=i
    ·subst he;rw[if_pos rfl,if_pos (by omega),hs]
    ·rw[if_neg he]
     by_cases h1:j<i
     ·rw[if_pos h1,if_pos (by omega)]
     ·rw[if_neg h1,if_neg (by omega)]
   have hB2:=hA.setCell_same i (.int .u32 (s:Nat))
   rw[u32V_put] at hB2
   have HC2:=hide hC2
   have HCL:=hide (show (c.set i s).length=17 by simpa using hcl)
   have HB2:=hide hB2
   have HBB:=hide (hB.setCell_other ⟨w.heap.size,i,none⟩ (.int .u32 (s:Nat)) (by first | (simp;done) | (simp;omega)))
   have HR:=hide (hR.setCell_other ⟨w.heap.size,i,none⟩ (.int .u32 (s:Nat)) (by first | (simp;done) | (simp;omega)))
   have HBE:=hide (hbe.setCell (p:=⟨w.heap.size,i,none⟩) (Nat.le_refl _) (.int .u32 (s:Nat)))
   clear hC2 hC hci hs hB2 hR hbe hcl x1 x2
   generalize c.set i s=c2 at *
   generalize a.getD i 0=x at *
   generalize b.getD i 0=y at *
   have ji:(i:Int)<17:=by omega
   clear hda hdb
   go_wp2
   go_region
   go_wp2
   go_roundw
   case rel=>exact ⟨i+1,c2,by omega,by go_num,HCL.out,HC2.out,HB2.out,HBB.out,HR.out,HBE.out.drew⟩
   case measure=>simp[intOf];omega
  ·obtain rfl:i=17:=by omega
   have hv:=Pol.sum_val a b c (by omega) (by omega) hcl (fun j hj=>by rw[hC,if_pos hj])
   have hd:∀ j,c.getD j 0<4278190080:=fun j=>by
    have:=hda j
    have:=hdb j
    rw[hC]
    split <;> omega
   have C1:=hide (fun w=>carry_any c w hcl hd)
   rw[hv] at C1
   have HCL:=hide (L17 hcl)
   clear hC hv hd hda hdb
   go_wp2_with ((with_reducible refine wpList_at (.load 163 (.tmp 2)) rfl ?_);refine wpList_load_row rfl 163 (.tmp 2) rfl (w.heap.size) rfl 17 130 Tryz.underlying163 info17 (u32V c) 163 hA HCL.out ?_)
   refine (C1.out _).mono ?_
   rintro e w7 ⟨⟨c2,rfl,hC2,hv2⟩,hb7⟩
   have hZ7:=hR.below hb7 hR.lt
   have hbe7:=hbe.trans (hb7.mono hbe.size)
   go_wp2_with ((with_reducible refine wpList_at (.store 163 (.tmp 4) (.tmp 19)) rfl ?_);refine wpList_store_row rfl 163 (.tmp 4) (.tmp 19) rfl (w.heap.size+1+1) rfl 17 info17 (u32V c2) rfl (L17 hC2.1) (u32V_one _) (u32V (zeros32 17)) 163 hZ7 LZ17 ?_;intro w9 hB9 hG9)
   exact ret_rowB Tryz.results132 (w.heap.size+1+1) rfl 17 130 Tryz.underlying163 info17 (u32V c2) 163 hB9 (L17 hC2.1) rfl ⟨⟨_,rfl,hC2,hv2⟩,hbe7.trans (RowKit.Below.of_grown hG9 (by omega) hbe7.size)⟩
theorem World.grownBy.own {a w w':World} {b:Nat} {row:Option Nat} (h:a.grownBy w (some b)) (k:w.grownBy w' row) (hr:∀ x,row=some x→a.heap.size≤x):a.grownBy w' (some b):=
 ⟨k.os.trans h.os,k.tape.trans h.tape,k.output.trans h.output,Nat.le_trans h.size k.size,fun i hi hne=>by
  rw[k.block i (Nat.lt_of_lt_of_le hi h.size) (fun e=>absurd (hr i e.symm) (by omega))]
  exact h.block i hi hne⟩
theorem wp_letterA {P:Program} {c:Code} {Q:Exit→Act→World→Prop} {a:Act} {w:World} (h:∀ A:Act,A=a→c.wp P Q A w):c.wp P Q a w:=h a rfl
theorem step_call {P:Program} {ops:Array Oper} {o:Oper} {a:Act} {w:World} {K:Act→World→Prop} {Q:Exit→Act→World→Prop} {E:Prop} (hg:o.guard=none) (f:FuncId) (xs:Array Operand) (ats:Array TypeId)
  (ho:o.op = .call { callee:=.value (.func f),args:=xs,argTypes:=ats }) (us:Array Value) (hx:xs.map a.eval=us) (hc:∀ args w,(callFunc f args).run P w = .ok (.enter f args) w)
  (h:Calls P f us w fun e w'=>∃ r,e = .returned r∧K (a.put o.dst r) w'):if Region.wanted o (yielded ops a.tmps)=true then Oper.wp P o a w K Q else E:=by
 rw[if_pos (by simp[Region.wanted,hg])]
 have e:(execOp a.eval o).run P w = .ok (.enter f us) w:=by
  unfold execOp
  simp[ho,resolve,invoke,hx,hc,Act.eval,Deferred.ofValue]
 unfold Oper.wp
 rw[e,Oper.upon_enter]
 exact h.mono (by rintro e w' ⟨r,rfl,hk⟩;exact hk)
end Go.Proofs.YtmjekklgefdolaaGreatDoor
