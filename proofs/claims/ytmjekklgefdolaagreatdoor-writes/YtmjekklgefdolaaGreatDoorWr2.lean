import Derived.ArgAppend
import Derived.Maps.AppendAt
import Derived.Laws.IdiomStrings
import Derived.Laws.AppendOwnNone
import Derived.BigQuiet
import Derived.Laws.MakeOwn
import Derived.Deep.RegionHeld3
import Derived.Deep.MidRow
import Derived.Deep.QuietTactic
import Derived.Test.YtmjekklgefdolaaGreatDoorWr1
namespace Go
open Go.RowKit
def BlkM (w:World) (b:Nat) (t:TypeId) (cs:List Value):Prop:=
 ∃ lo hi,w.heap[b]? = some (.cells cs.toArray t (lo,hi))∧∀ j,j<cs.length→(decide (lo≤j)&&decide (j<hi))=false
section
variable {w:World} {b:Nat} {t:TypeId} {cs:List Value}
theorem Blk.marked (h:Blk w b t cs):BlkM w b t cs:=⟨0,0,h,fun j _=>by simp⟩
theorem BlkM.lt (h:BlkM w b t cs):b<w.heap.size:=by
 obtain ⟨lo,hi,h,_⟩:=h
 exact (Array.getElem?_eq_some_iff.1 h).1
theorem BlkM.cell (h:BlkM w b t cs) {i:Nat} {v:Value} (hi:cs[i]? = some v):w.cell? ⟨b,i,none⟩=some v:=by
 obtain ⟨lo,hi',h,_⟩:=h
 rw[cell_of_row w b i cs.toArray t (lo,hi') h];simpa using hi
theorem BlkM.frozen (h:BlkM w b t cs) {i:Nat} (hi:i<cs.length):w.frozen? ⟨b,i,none⟩=false:=by
 obtain ⟨lo,hi',h,hf⟩:=h
 have:=hf i hi
 unfold World.frozen?
 rw[h]
 exact this
theorem BlkM.grown {w':World} (h:BlkM w b t cs) {row:Option Nat} (hb:w.grownBy w' row) (hB:some b≠row):BlkM w' b t cs:=by
 have hl:=h.lt
 obtain ⟨lo,hi,h,hf⟩:=h
 exact ⟨lo,hi,by rw[hb.block b hl hB];exact h,hf⟩
theorem BlkM.below {w':World} (h:BlkM w b t cs) {B:Nat} (hb:Below B w w') (hB:b<B):BlkM w' b t cs:=by
 obtain ⟨lo,hi,h,hf⟩:=h
 exact ⟨lo,hi,by rw[hb.block b hB];exact h,hf⟩
theorem BlkM.alloc (h:BlkM w b t cs) (o:Obj):BlkM (w.alloc o) b t cs:=h.grown (World.grownBy_alloc w o none) (by simp)
theorem BlkM.setCell_same (h:BlkM w b t cs) (i:Nat) (v:Value):BlkM (w.setCell ⟨b,i,none⟩ v) b t (cs.set i v):=by
 obtain ⟨lo,hi,h,hf⟩:=h
 refine ⟨lo,hi,?_,by simpa using hf⟩
 unfold World.setCell
 rw[Array.getElem?_modify,if_pos rfl,h]
 simp
theorem BlkM.setCell_other (h:BlkM w b t cs) (a:Addr) (v:Value) (hne:b≠a.block):BlkM (w.setCell a v) b t cs:=by
 obtain ⟨lo,hi,h,hf⟩:=h
 exact ⟨lo,hi,by rw[Below.heap_setCell w a v b hne];exact h,hf⟩
end
theorem BlkM.setCells_same {b:Nat} {t:TypeId}:∀ (vs:List Value) (cs:List Value) (o:Nat) (w:World),BlkM w b t cs→o+vs.length≤cs.length→BlkM (w.setCells b o vs) b t (laidOver cs o vs)
 | [],cs,o,w,h,_=>by simpa [World.setCells,laidOver] using h
 | v::r,cs,o,w,h,hl=>by
  rw[World.setCells]
  have h1:=BlkM.setCells_same r (cs.set o v) (o+1) _ (h.setCell_same o v) (by simp at hl ⊢;omega)
  have e:laidOver (cs.set o v) (o+1) r=laidOver cs o (v::r):=by
   simp only[List.length_cons] at hl
   unfold laidOver
   rw[List.take_succ_eq_append_getElem (by simp;omega),List.getElem_set_self,List.take_set_of_le (Nat.le_refl _),List.drop_set_of_lt (by omega)]
   simp only[List.length_cons,List.append_assoc,List.cons_append,List.nil_append]
   rw[show o+1+r.length=o+(r.length+1) by omega]
  rw[←e];exact h1
def Row (w:World) (base:Nat) (e:TypeId) (size:Nat) (v:Value) (n:Nat) (xs:List Value):Prop:=
 xs.length=n*size ∧
 ((v = .slice none 0 0∧n=0) ∨
 ∃ g cap cur,v = .slice (some ⟨g,0,none⟩) n cap∧base≤g∧BlkM w g e cur∧n≤cap∧cap≤maxLen∧cur.length=cap*size∧cur.take (n*size)=xs)
section
variable {w:World} {base:Nat} {e:TypeId} {size:Nat} {v:Value} {n:Nat} {xs:List Value}
theorem World.ownsRow.row (h:w.ownsRow base e size v n xs):Row w base e size v n xs:=by
 refine ⟨h.1,?_⟩
 rcases h.2 with hn | ⟨g,cap,cur,rfl,hb,hg,hc,hm,hsz,ht⟩
 ·exact .inl hn
 ·exact .inr ⟨g,cap,cur.toList,rfl,hb,(show Blk w g e cur.toList by unfold Blk;simpa using hg).marked,hc,hm,by simpa using hsz,ht⟩
theorem Row.nil (w:World) (base:Nat) (e:TypeId) (size:Nat):Row w base e size (.slice none 0 0) 0 []:=(World.ownsRow_nil w base e size).row
theorem Row.mono {base':Nat} (h:Row w base e size v n xs) (hb:base'≤base):Row w base' e size v n xs:=by
 refine ⟨h.1,?_⟩
 rcases h.2 with hn | ⟨g,cap,cur,rfl,hg,r⟩
 ·exact .inl hn
 ·exact .inr ⟨g,cap,cur,rfl,Nat.le_trans hb hg,r⟩
theorem Row.kept {w':World} {row:Option Nat} (h:Row w base e size v n xs) (hg:w.grownBy w' row) (hne:v.ownBlock=none∨v.ownBlock≠row):Row w' base e size v n xs:=by
 refine ⟨h.1,?_⟩
 rcases h.2 with hn | ⟨g,cap,cur,rfl,hb,hgg,r⟩
 ·exact .inl hn
 ·exact .inr ⟨g,cap,cur,rfl,hb,hgg.grown hg (by simpa [Value.ownBlock] using hne),r⟩
theorem Row.alloc (h:Row w base e size v n xs) (o:Obj):Row (w.alloc o) base e size v n xs:=h.kept (World.grownBy_alloc w o none) (by cases hv:v.ownBlock <;> simp)
theorem Row.drew (h:Row w base e size v n xs):Row w.drew base e size v n xs:=h
theorem Row.drewN (h:Row w base e size v n xs) (m:Nat):Row (w.drewN m) base e size v n xs:=h
theorem Row.lt (h:Row w base e size v n xs):∀ k,v.ownBlock=some k→base≤k∧k<w.heap.size:=by
 intro k hk
 rcases h.2 with ⟨rfl,_⟩ | ⟨g,cap,cur,rfl,hb,hg,_⟩
 ·simp[Value.ownBlock] at hk
 ·simp[Value.ownBlock] at hk
  subst hk
  exact ⟨hb,hg.lt⟩
theorem Row.open (h:Row w base e size v n xs) (hn:0<n):∃ g cap cur,v = .slice (some ⟨g,0,none⟩) n cap∧base≤g∧BlkM w g e cur∧n≤cap∧cap≤maxLen∧cur.length=cap*size∧cur.take (n*size)=xs:=by
 rcases h.2 with ⟨_,h0⟩ | h
 ·omega
 ·exact h
theorem run_append_row {P:Program} (t ty:TypeId) (i:TypeInfo) (z:Value) (bytes:Nat) (ht:P.underlying t=some (.slice e)) (hi:P.info? e=some i) (hz:i.zero=some z)
  (hsize:i.size=size) (hby:i.bytes=bytes) (hzs:z.cells.size=size) (hsz:0<size) (hown:Row w base e size v n xs)
  (a:Addr) (m c:Nat) (news:List Value) (hl:news.length=m*size) (hnews:∀ j u,news[j]? = some u→w.cell? (a.add j)=some u) (h1:∀ u ∈ news,u.oneCell'=true)
  (h63:n+m≤maxLen) (hbytes:(n+m)*bytes≤140737488355328) (hbase:base≤w.heap.size):
  ∃ v' w',(Builtin.append_ #[t,t] ty #[v,.slice (some a) m c]).run P w = .ok v' w'∧Row w' base e size v' (n+m) (xs++news)∧w.grownBy w' v.ownBlock ∧
   (v'.ownBlock=v.ownBlock∨∃ g,v'.ownBlock=some g∧w.heap.size≤g):=by
 have hlen:(xs++news).length=(n+m)*size:=by rw[List.length_append,hown.1,hl,Nat.add_mul]
 rcases hown.2 with ⟨rfl,rfl⟩ | ⟨g,cap,cur,rfl,hb,hg,hc,hm,hcl,htk⟩
 ·obtain rfl:xs=[]:=List.eq_nil_of_length_eq_zero (by simpa using hown.1)
  obtain ⟨v',w',hr,ho,hgr,_,hat⟩:=run_append_own_at (P:=P) w base t ty e i z size bytes ht hi hz hsize hby hzs hsz (.slice none 0 0) 0 [] (World.ownsRow_nil _ _ _ _) a m c news hl hnews h1 h63 hbytes hbase
  exact ⟨v',w',hr,ho.row,hgr,hat.imp id fun h=>⟨_,h,Nat.le_refl _⟩⟩
 ·by_cases hroom:n+m≤cap
  ·have hfit:n*size+news.length≤cur.length:=by
    rw[hl,hcl,←Nat.add_mul];exact Nat.mul_le_mul_right _ hroom
   have hr:=run_append_room_cells (P:=P) w t ty e i ht hi g 0 n cap a m c news (by rw[hsize];exact hl) hnews h1 hroom
    (fun j hj=>by rw[hg.cell (i:=0+n*i.size+j) (List.getElem?_eq_getElem (by rw[hsize];omega))];rfl)
    (fun j hj=>hg.frozen (by rw[hsize];omega))
   rw[hsize,Nat.zero_add] at hr
   refine ⟨_,_,hr,⟨hlen,.inr ⟨g,cap,_,rfl,hb,BlkM.setCells_same news cur (n*size) w hg hfit,hroom,hm,?_,?_⟩⟩,World.grownBy.setCells _ _ _ (World.grownBy.refl w _),.inl rfl⟩
   ·unfold laidOver;simp;omega
   ·unfold laidOver
    rw[htk,List.take_append_of_le_length (by rw[hlen];exact Nat.le_refl _),List.take_of_length_le (by rw[hlen];exact Nat.le_refl _)]
  ·obtain ⟨v',w',hr,ho,hgr⟩:=run_append_arg_grows (P:=P) w t ty e i z size bytes ht hi hz hsize hby hzs hsz ⟨g,0,none⟩ n cap xs hown.1
    (fun j u hu=>by
     rw[Addr.add_mid,Nat.zero_add]
     refine hg.cell ?_
     rw[←htk,List.getElem?_take] at hu
     split at hu
     ·exact hu
     ·cases hu) a m c news hl hnews (by omega) h63 hbytes
   refine ⟨v',w',hr,ho.row.mono hbase,⟨hgr.os,hgr.tape,hgr.output,hgr.size,fun k hk _=>hgr.block k hk (by simp)⟩,?_⟩
   cases hv:v'.ownBlock with
   | none=>exact .inl (by
     rcases ho.2 with ⟨rfl,h0⟩ | ⟨g',_,_,rfl,_⟩
     ·simp at h0;omega
     ·simp[Value.ownBlock] at hv)
   | some k=>exact .inr ⟨k,rfl,(ho.lt k hv).1⟩
end
theorem wp_append_row {P:Program} {w:World} {base:Nat} {e:TypeId} {size:Nat} {o:Oper} {a:Act} {K:Act→World→Prop} {Q:Exit→Act→World→Prop} (s x:Operand) (t:TypeId)
  (ho:o.op = .call { callee:=.builtin .append,args:=#[s,x],argTypes:=#[t,t] }) (i:TypeInfo) (z:Value) (bytes:Nat) (ht:P.underlying t=some (.slice e)) (hi:P.info? e=some i) (hz:i.zero=some z)
  (hsize:i.size=size) (hby:i.bytes=bytes) (hzs:z.cells.size=size) (hsz:0<size) (v:Value) (n:Nat) (xs:List Value) (hs:a.eval s=v) (hown:Row w base e size v n xs)
  (ad:Addr) (m c:Nat) (news:List Value) (hx:a.eval x = .slice (some ad) m c) (hl:news.length=m*size) (hnews:∀ j u,news[j]? = some u→w.cell? (ad.add j)=some u) (h1:∀ u ∈ news,u.oneCell'=true)
  (h63:n+m≤maxLen) (hbytes:(n+m)*bytes≤140737488355328) (hbase:base≤w.heap.size)
  (h:∀ v' w',Row w' base e size v' (n+m) (xs++news)→w.grownBy w' v.ownBlock→(v'.ownBlock=v.ownBlock∨∃ g,v'.ownBlock=some g∧w.heap.size≤g)→K (a.put o.dst v') w'):o.wp P a w K Q:=by
 obtain ⟨v',w',hr,h2,h3,h4⟩:=run_append_row (P:=P) t o.type i z bytes ht hi hz hsize hby hzs hsz hown ad m c news hl hnews h1 h63 hbytes hbase
 unfold Oper.wp execOp
 simp only[ho,resolve,invoke,builtin,Sem.run_bind,Sem.run_pure,Result.andThen_ok,List.map_toArray,List.map_cons,List.map_nil,hs,hx,hr]
 exact h v' w' h2 h3 h4
end Go
namespace Go.Proofs.YtmjekklgefdolaaGreatDoor
open Go.RowKit
def u8L (l:List UInt8):List Value:=l.map fun x:UInt8=>Value.int .u8 ((x.toNat:Nat):Int)
theorem u8L_append (l m:List UInt8):u8L (l++m)=u8L l++u8L m:=by simp[u8L]
theorem u8L_one (l:List UInt8):∀ v ∈ u8L l,v.oneCell'=true:=by
 intro v hv
 obtain ⟨x,_,rfl⟩:=List.mem_map.1 hv
 rfl
theorem infoU8:(Tryz.prog.info? 5).map (fun i=>(i.zero,i.size,i.bytes))=some (some (.int .u8 0),1,1):=by kernel_rfl
theorem wpList_append_u8 {ops:Array Oper} {rest:List Oper} {o:Oper} {a:Act} {w:World} {Q:Exit→Act→World→Prop} (hgd:o.guard=none) (s x:Operand)
  (ho:o.op = .call { callee:=.builtin .append,args:=#[s,x],argTypes:=#[62,62] })
  (base:Nat) (v:Value) (n:Nat) (xs:List UInt8) (hs:a.eval s=v) (hown:Row w base 5 1 v n (u8L xs))
  (ad:Addr) (m c:Nat) (news:List UInt8) (hx:a.eval x = .slice (some ad) m c) (hl:news.length=m) (hnew:∀ j u,(u8L news)[j]? = some u→w.cell? (ad.add j)=some u) (hn:n+m≤1099511627776) (hbase:base≤w.heap.size)
  (h:∀ v' w',Row w' base 5 1 v' (n+m) (u8L (xs++news))→w.grownBy w' v.ownBlock→(v'.ownBlock=v.ownBlock∨∃ g,v'.ownBlock=some g∧w.heap.size≤g)→wpList Tryz.prog ops Q rest (a.put o.dst v') w'):wpList Tryz.prog ops Q (o::rest) a w:=by
 obtain ⟨i0,hi,hz0,hz1,hz2⟩:=info_parts infoU8
 refine wpList_plain hgd fun _ hK=>?_
 refine wp_append_row s x 62 ho i0 (.int .u8 0) 1 Tryz.underlying62 hi hz0 hz1 hz2 rfl (by decide) v n (u8L xs) hs hown ad m c (u8L news) hx (by simp[u8L,hl]) hnew (u8L_one _) ?_ ?_ hbase ?_
 ·unfold maxLen;omega
 ·omega
 ·intro v' w' h1 h2 h3
  exact hK _ _ (h v' w' (by rw[u8L_append];exact h1) h2 h3)
theorem bytesRow_list (s:ByteArray) (cap:Nat):(bytesRow s cap).toList=u8L s.data.toList++List.replicate (cap-s.size) (.int .u8 0):=by
 unfold bytesRow u8L
 simp
theorem row_bytes (s:ByteArray) (w:World) (cap:Nat) (hc:s.size≤cap) (hm:cap≤maxLen):
  Row (w.drew.alloc (.cells (bytesRow s cap) 5 ((bytesRow s cap).size,(bytesRow s cap).size+1))) w.heap.size 5 1 (.slice (some ⟨w.heap.size,0,none⟩) s.size cap) s.size (u8L s.data.toList):=by
 have hsz:s.data.toList.length=s.size:=by rw[Array.length_toList];rfl
 have hl:(bytesRow s cap).toList.length=cap:=by rw[bytesRow_list];simp[u8L,hsz];omega
 refine ⟨by simp[u8L,hsz],.inr ⟨w.heap.size,cap,(bytesRow s cap).toList,rfl,Nat.le_refl _,⟨_,_,heap_alloc_new w.drew _,?_⟩,hc,hm,by rw[hl];omega,?_⟩⟩
 ·intro j hj
  have:j<(bytesRow s cap).size:=by simpa using hj
  simp;omega
 ·rw[bytesRow_list,Nat.mul_one,List.take_left' (by simp[u8L,hsz])]
def vlen:Value→Nat
 | .slice _ n _=>n
 | _=>0
theorem gap_more (L j:Nat) (h:j<Sha.gap L):(L+1+j)%64≠56:=by unfold Sha.gap at h;omega
theorem gap_end (L:Nat):(L+1+Sha.gap L)%64=56:=by unfold Sha.gap;omega
theorem gap_lt (L:Nat):Sha.gap L<64:=by unfold Sha.gap;omega
theorem zeros_snoc (n:Nat):Sha.zeros n++[0]=Sha.zeros (n+1):=by
 unfold Sha.zeros;rw[List.replicate_succ']
theorem one_news {w:World} {g:Nat} {x:UInt8} {v:Int} (hv:v=(x.toNat:Nat)) (h:w.cell? ⟨g,0,none⟩=some (.int .u8 v)):∀ j u,(u8L [x])[j]? = some u→w.cell? ((⟨g,0,none⟩:Addr).add j)=some u:=by
 intro j u hj
 match j,hj with
 | 0,hj=>simp[u8L] at hj;subst hj;subst hv;rw[Addr.add_mid];exact h
theorem row_news {w:World} {base:Nat} {v:Value} {l:List UInt8} {g cap n:Nat} (h:Row w base 5 1 v n (u8L l)) (hv:v = .slice (some ⟨g,0,none⟩) n cap):∀ j u,(u8L l)[j]? = some u→w.cell? ((⟨g,0,none⟩:Addr).add j)=some u:=by
 intro j u hj
 rcases h.2 with ⟨h0,_⟩ | ⟨g',cap',cur,h1,_,hB,_,_,_,htk⟩
 ·rw[hv] at h0;cases h0
 ·rw[hv] at h1
  injection h1 with e1 _ _
  injection e1 with e2
  injection e2 with e3
  subst e3
  rw[Addr.add_mid,Nat.zero_add]
  exact hB.cell (take_at htk hj)
def tailK (N k:Nat):List UInt8:=(Sha.be64 N).drop (8-k)
theorem tailK_succ (N k:Nat) (hk:k<8):UInt8.ofNat (N/256 ^ k)::tailK N k=tailK N (k+1):=
 match k,hk with
 | 0,_=>by simp[tailK,Sha.be64]
 | 1,_=>by simp[tailK,Sha.be64]
 | 2,_=>by simp[tailK,Sha.be64]
 | 3,_=>by simp[tailK,Sha.be64]
 | 4,_=>by simp[tailK,Sha.be64]
 | 5,_=>by simp[tailK,Sha.be64]
 | 6,_=>by simp[tailK,Sha.be64]
 | 7,_=>by simp[tailK,Sha.be64]
 | n+8,h=>absurd h (by omega)
theorem ofNat_mod (x:Nat):(UInt8.ofNat x).toNat=x%256:=by simp
theorem Row.str {w:World} {base:Nat} {l:List UInt8} {v:Value} {n:Nat} (h:Row w base 5 1 v n (u8L l)) (hn:0<n):∃ g cap,v = .slice (some ⟨g,0,none⟩) n cap∧(convert 62 9 v).run Tryz.prog w = .ok (.string ⟨l.toArray⟩) w:=by
 obtain ⟨g,cap,cur,rfl,_,hB,_,_,_,htk⟩:=h.open hn
 have hl:l.length=n:=by have:=h.1;simpa [u8L] using this
 refine ⟨g,cap,rfl,?_⟩
 rw[←hl]
 refine run_convert_bytes_back w 62 9 5 ⟨g,0,none⟩ cap l Tryz.underlying62 Tryz.underlying5 Tryz.underlying9 (fun j hj=>?_)
 rw[Addr.add_mid,Nat.zero_add]
 exact hB.cell (take_at htk (by simp[u8L,hj]))
theorem Row.vlen {w:World} {base:Nat} {e:TypeId} {size:Nat} {v:Value} {n:Nat} {xs:List Value} (h:Row w base e size v n xs):Proofs.YtmjekklgefdolaaGreatDoor.vlen v=n:=by
 rcases h.2 with ⟨rfl,rfl⟩ | ⟨g,cap,cur,rfl,_⟩ <;> rfl
theorem infoU8i:∃ i,Tryz.prog.info? 5=some i:=by
 obtain ⟨i,h,_⟩:=info_parts infoU8
 exact ⟨i,h⟩
theorem fresh_own {w:World} {v:Value}:(w.alloc (.cells #[v] 5)).ownsRow w.heap.size 5 1 (.slice (some ⟨w.heap.size,0,none⟩) 1 1) 1 [v]:=
 ⟨rfl,.inr ⟨w.heap.size,1,#[v],rfl,Nat.le_refl _,heap_alloc_new w _,Nat.le_refl _,by decide,rfl,rfl⟩⟩
set_option maxRecDepth 100000 in
set_option maxHeartbeats 2000000 in
theorem padded_any (s:ByteArray) (w:World) (hs:s.size≤1099511627):
  Calls Tryz.prog 40 #[.string s] w fun e w'=>e = .returned (.string ⟨(Sha.padded s.data.toList).toArray⟩)∧Below w.heap.size w w':=by
 have hcv:=fun w:World=>run_bytes_of_string (P:=Tryz.prog) w 9 62 5 s Tryz.underlying9 Tryz.underlying62 Tryz.underlying5
 have hge:=grownCap_ge w s.size 0 5
 have hle:=grownCap_le_maxLen w s.size 0 5 (by unfold maxLen;omega)
 have hrow:=row_bytes s w _ hge hle
 have hlen:s.data.toList.length=s.size:=by rw[Array.length_toList];rfl
 have HL:=hide hlen
 clear hlen
 go_enter Tryz.func40,Tryz.ntmps40
 go_wp2_with (at_builtin;refine wpList_append_u8 rfl (.tmp 9) (.tmp 10) rfl w.heap.size _ s.size s.data.toList rfl (hrow.alloc _) ⟨w.heap.size+1,0,none⟩ 1 1 [128] rfl rfl ?_ ?_ ?_ ?_;exact one_news rfl (World.cell?_alloc_at _ _ _ _ (by simp));omega;(simp;omega);intro v1 w1 hr1 hg1 hat1)
 have hbe1:Below w.heap.size w w1:=Below.grown ((((Below.refl w.heap.size w).drew.alloc (Nat.le_refl _) _).alloc (by simp) _)) hg1 (by simp;omega) (fun k hk=>by injection hk with hk;rw[←hk];exact Nat.le_refl _)
 clear hg1 hat1 hrow hge hle hcv
 go_loopw [3] (fun v wr=>∃ j:Nat,j≤Sha.gap s.size∧Row wr w.heap.size 5 1 v (s.size+1+j) (u8L (s.data.toList++[128]++Sha.zeros j))∧Below w.heap.size w wr) (fun v _=>s.size+65-vlen v)
 case atStart=>exact ⟨0,Nat.zero_le _,by simpa [Sha.zeros] using hr1,hbe1⟩
 case round=>
  clear hr1 hbe1
  obtain ⟨j,hj,hr,hbe⟩:=hrel
  have hgl:=gap_lt s.size
  have hsz:=hbe.size
  by_cases hlt:j<Sha.gap s.size
  ·have hne:=gap_more s.size j hlt
   obtain ⟨g,cap,cur,rfl,hgb,_,hcap,hcapm,_⟩:=hr.open (by omega)
   unfold maxLen at hcapm
   have t1:((s.size+1+j:Nat):Int).tmod 64=(((s.size+1+j)%64:Nat):Int):=by rw[Int.tmod_eq_emod_of_nonneg (by omega)];omega
   have t2:((((s.size+1+j)%64:Nat):Int) != 56)=true:=by rw[bne_iff_ne];omega
   generalize hX:s.size+1+j=X at *
   generalize hY:X%64=Y at *
   have hXb:X≤1099511700:=by omega
   have HX:=hide hX
   clear hX hY hne
   go_wp2_with (at_builtin;refine wpList_append_u8 rfl (.tmp 16) (.tmp 17) rfl w.heap.size _ X _ rfl (hr.alloc _) ⟨wr.heap.size,0,none⟩ 1 1 [0] rfl rfl ?_ ?_ ?_ ?_;exact one_news rfl (World.cell?_alloc_at _ _ _ _ rfl);omega;(simp;omega);intro v1 w1 hr1 hg1 hat1)
   go_roundw
   case rel=>
    refine ⟨j+1,by omega,?_,Below.grown (hbe.alloc hsz _) hg1 (by simp;omega) (fun k hk=>(hr.lt k hk).1)⟩
    rw[←HX.out,List.append_assoc,zeros_snoc] at hr1
    exact hr1
   case measure=>rw[Row.vlen hr1];have:=HX.out;simp[vlen];omega
  ·have hjg:j=Sha.gap s.size:=by omega
   rw[hjg] at hr
   have hne:=gap_end s.size
   obtain ⟨g,cap,cur,rfl,hgb,hBg,hcap,hcapm,_⟩:=hr.open (by omega)
   have hgl2:=hBg.lt
   unfold maxLen at hcapm
   have t1:((s.size+1+Sha.gap s.size:Nat):Int).tmod 64=(((s.size+1+Sha.gap s.size)%64:Nat):Int):=by rw[Int.tmod_eq_emod_of_nonneg (by omega)];omega
   have t2:((((s.size+1+Sha.gap s.size)%64:Nat):Int) != 56)=false:=by rw[hne];rfl
   obtain ⟨pl,hpl⟩:∃ pl,pl=s.data.toList++[128]++Sha.zeros (Sha.gap s.size):=⟨_,rfl⟩
   rw[←hpl] at hr
   have HP:=hide hpl
   clear hpl hjg hne
   generalize hX:s.size+1+Sha.gap s.size=X at *
   generalize hY:X%64=Y at *
   have hXb:X≤1099511700:=by omega
   have HX:=hide hX
   clear hX hY
   go_wp2
   clear t1 t2
   go_loopw [4,5,6] (fun n v i w'=>∃ k M:Nat,k≤8∧i = .int .i64 k∧n = .int .i64 (M:Nat)∧M=8*s.size/256 ^ k∧Row w' w.heap.size 5 1 v k (u8L (tailK (8*s.size) k))∧(k=0→v = .slice none 0 0)∧Row w' w.heap.size 5 1 (.slice (some ⟨g,0,none⟩) X cap) X (u8L pl)∧g<w'.heap.size∧Below w.heap.size w w') (fun _ _ i _=>8-(intOf i).toNat)
   case atStart=>exact ⟨0,8*s.size,by omega,rfl,by go_num,by simp,Row.nil _ _ _ _,fun _=>rfl,hr,hgl2,hbe⟩
   case round=>
    clear hr hbe hBg hgl2 hsz
    obtain ⟨k,M,hk,rfl,rfl,hM,hrt,hnil,hr,hgl2,hbe⟩:=hrel
    have hsz:=hbe.size
    have hMb:M≤8*s.size:=by rw[hM];exact Nat.div_le_self _ _
    by_cases hlt:k<8
    ·have hM1:M/256=8*s.size/256 ^ (k+1):=by rw[hM,Nat.pow_succ,Nat.div_div_eq_div_mul]
     have htl:=tailK_succ (8*s.size) k hlt
     rw[←hM] at htl
     obtain ⟨R,hR⟩:∃ R,R=M%256:=⟨_,rfl⟩
     have hRl:R<256:=by omega
     have hRx:(R:Int)=((UInt8.ofNat M).toNat:Nat):=by rw[ofNat_mod,hR]
     have t1:(M:Int).tmod 256=(R:Int):=by rw[Int.tmod_eq_emod_of_nonneg (by omega)];omega
     have t0:(M:Int)%256=(R:Int):=by omega
     have HM1:=hide hM1
     have HTL:=hide htl
     have HRX:=hide hRx
     clear hM1 htl hRx hR hM
     by_cases hk0:k=0
     ·obtain rfl:=hnil hk0
      subst hk0
      go_wp2_with (at_builtin;refine wpList_append_own_none rfl (.tmp 29) (.tmp 30) 62 rfl wr.heap.size 5 _ 1 Tryz.underlying62 infoU8i.choose_spec _ 1 [.int .u8 (R:Int)] rfl ?_ rfl ?_;exact fresh_own)
      go_roundw
      case rel=>
       refine ⟨1,M/256,by omega,rfl,by go_num,HM1.out,?_,fun h=>by omega,hr.alloc _,by simp;omega,hbe.alloc hsz _⟩
       have hf:=(fresh_own (w:=wr) (v:=.int .u8 (R:Int))).row.mono hsz
       rw[←HTL.out]
       have e:u8L (UInt8.ofNat M::tailK (8*s.size) 0)=[.int .u8 (R:Int)]:=by rw[HRX.out];rfl
       rw[e]
       exact hf
      case measure=>simp[intOf]
     ·obtain ⟨g2,cap2,cur2,rfl,hgb2,hB2,hcap2,_,_⟩:=hrt.open (by omega)
      have hnews:=row_news (hrt.alloc (.cells #[.int .u8 (R:Int)] 5)) rfl
      have HNW:=hide hnews
      clear hnews hnil
      have hf:Row (wr.alloc (.cells #[.int .u8 (R:Int)] 5)) wr.heap.size 5 1 (.slice (some ⟨wr.heap.size,0,none⟩) 1 1) 1 (u8L [UInt8.ofNat M]):=by
       have h0:=(fresh_own (w:=wr) (v:=.int .u8 (R:Int))).row
       have e:u8L [UInt8.ofNat M]=[.int .u8 (R:Int)]:=by rw[HRX.out];rfl
       rw[e];exact h0
      have HF:=hide hf
      have htll:(tailK (8*s.size) k).length=k:=by have:=hrt.1;simpa [u8L] using this
      have HTLL:=hide htll
      clear hf htll
      go_wp2_with (at_builtin;refine wpList_append_u8 rfl (.tmp 29) (.tmp 30) rfl wr.heap.size _ 1 _ rfl HF.out ⟨g2,0,none⟩ k cap2 (tailK (8*s.size) k) rfl HTLL.out HNW.out ?_ ?_ ?_;omega;simp;intro v3 w3 hr3 hg3 hat3)
      go_roundw
      case rel=>
       have hg3':wr.grownBy w3 none:=⟨hg3.os,hg3.tape,hg3.output,by have:=hg3.size;simp at this;omega,fun b hb _=>by
        rw[hg3.block b (by simp;omega) (fun e=>Nat.ne_of_lt hb (Option.some.inj e)),Below.heap_alloc wr _ b hb]⟩
       refine ⟨k+1,M/256,by omega,by go_num,by go_num,HM1.out,?_,fun h=>by omega,hr.kept hg3' (by simp[Value.ownBlock]),Nat.lt_of_lt_of_le hgl2 hg3'.size,hbe.trans (hg3'.none.mono hsz)⟩
       rw[←HTL.out,Nat.add_comm k 1]
       exact hr3.mono hsz
      case measure=>simp[intOf];omega
    ·have h8:k=8:=by omega
     subst h8
     obtain ⟨g2,cap2,cur2,rfl,hgb2,hB2,hcap2,_,_⟩:=hrt.open (by omega)
     have hnews:=row_news hrt rfl
     have HNW:=hide hnews
     clear hnews hnil
     go_wp2_with (at_builtin;refine wpList_append_u8 rfl (.tmp 34) (.tmp 35) rfl w.heap.size _ X _ rfl hr ⟨g2,0,none⟩ 8 cap2 (tailK (8*s.size) 8) rfl rfl HNW.out ?_ hsz ?_;omega;intro v3 w3 hr3 hg3 hat3;obtain ⟨g4,cap4,rfl,hcv⟩:=Row.str hr3 (by omega))
     go_ret
     refine ⟨?_,Below.grown hbe hg3 hsz (fun k hk=>(hr.lt k hk).1)⟩
     rw[HP.out]
     rfl
def pickN (c:Int) (n:Nat):Nat:=if c<0 then (-(c+1)).toNat%n else c.toNat%n
theorem pickN_lt (c:Int) (n:Nat) (h:0<n):pickN c n<n:=by
 unfold pickN;split <;> exact Nat.mod_lt _ h
set_option maxHeartbeats 400000 in
theorem pick_any (c:Int) (n:Nat) (w:World) (h1 : -9223372036854775808≤c) (h2:c≤9223372036854775807) (hn:0<n) (hn2:n≤1099511627776):
  Calls Tryz.prog 48 #[.int .i64 c,.int .i64 (n:Nat)] w fun e w'=>e = .returned (.int .i64 (pickN c n:Nat))∧w'=w:=by
 have z1:((n:Int)==0)=false:=beq_eq_false_iff_ne.2 (by omega)
 by_cases hc:c<0
 ·have hk:(-(c+1)).tmod (n:Int)=((((-(c+1)).toNat%n:Nat)):Int):=by
   rw[Int.tmod_eq_emod_of_nonneg (by omega),Int.natCast_emod,Int.toNat_of_nonneg (by omega)]
  have HK:=hide hk
  clear hk
  go_enter Tryz.func48,Tryz.ntmps48
  go_wp2
  go_ret
  exact ⟨ret_int (by rw[←Int.neg_tmod,HK.out,pickN,if_pos (by omega)]),rfl⟩
 ·have hk:c.tmod (n:Int)=(((c.toNat%n:Nat)):Int):=by
   rw[Int.tmod_eq_emod_of_nonneg (by omega),Int.natCast_emod,Int.toNat_of_nonneg (by omega)]
  have he:c%(n:Int)=((c.toNat%n:Nat):Int):=by rw[Int.natCast_emod,Int.toNat_of_nonneg (by omega)]
  have HK:=hide hk
  have HE:=hide he
  clear hk he
  go_enter Tryz.func48,Tryz.ntmps48
  go_wp2
  go_ret
  exact ⟨ret_int (by rw[pickN,if_neg (by omega)];first | exact HE.out | exact HK.out),rfl⟩
def Strs (w:World) (v:Value) (l:List ByteArray):Prop:=
 (l=[]∧∃ ao c,v = .slice ao 0 c)∨∃ g o c,v = .slice (some ⟨g,o,none⟩) l.length c∧∀ i x,l[i]? = some x→w.cell? ⟨g,o+i,none⟩=some (.string x)
theorem _root_.Go.World.cell?_alloc_later (w:World) (o:Obj) (a:Addr) {v:Value} (h:w.cell? a=some v):(w.alloc o).cell? a=some v:=by
 rw[World.cell?_alloc_lt _ _ _ (World.block_lt_of_cell? w a h)];exact h
theorem src_of {w:World} {ao:Option Addr} {n g:Nat} {cs:List Value} {o:Obj} (h:0<n→∃ ad:Addr,ao=some ad∧∀ j v,cs[j]? = some v→w.cell? (ad.add j)=some v) (hl:cs.length=n):
  0<cs.length→some (⟨g,0,none⟩:Addr)=some ⟨g,0,none⟩∧∃ ad,ao=some ad∧∀ j v,cs[j]? = some v→(w.alloc o).cell? (ad.add j)=some v:=by
 intro h0
 obtain ⟨ad,rfl,hc⟩:=h (by omega)
 exact ⟨rfl,ad,rfl,fun j v hj=>World.cell?_alloc_later w o _ (hc j v hj)⟩
set_option maxHeartbeats 800000 in
theorem sameTexts_any (a b:Value) (l:List ByteArray) (w:World) (ha:Strs w a l) (hb:Strs w b l) (hl:l.length≤1099511627776):
  Calls Tryz.prog 36 #[a,b] w fun e w'=>e = .returned (.bool true)∧∃ m,w'=w.drewN m:=by
 obtain ⟨ao,ca,rfl,hca⟩:∃ ao c,a = .slice ao l.length c∧∀ i x,l[i]? = some x→∃ g o,ao=some ⟨g,o,none⟩∧w.cell? ⟨g,o+i,none⟩=some (.string x):=by
  rcases ha with ⟨rfl,ao,c,rfl⟩ | ⟨g,o,c,rfl,h⟩
  ·exact ⟨ao,c,rfl,fun i x h=>by simp at h⟩
  ·exact ⟨_,c,rfl,fun i x hx=>⟨g,o,rfl,h i x hx⟩⟩
 obtain ⟨bo,cb,rfl,hcb⟩:∃ ao c,b = .slice ao l.length c∧∀ i x,l[i]? = some x→∃ g o,ao=some ⟨g,o,none⟩∧w.cell? ⟨g,o+i,none⟩=some (.string x):=by
  rcases hb with ⟨rfl,ao,c,rfl⟩ | ⟨g,o,c,rfl,h⟩
  ·exact ⟨ao,c,rfl,fun i x h=>by simp at h⟩
  ·exact ⟨_,c,rfl,fun i x hx=>⟨g,o,rfl,h i x hx⟩⟩
 clear ha hb
 generalize hn:l.length=n at *
 have HN:=hide hn
 clear hn
 have z0:((n:Int) != (n:Int))=false:=by simp
 go_enter Tryz.func36,Tryz.ntmps36
 go_wp2
 go_loopw [5] (fun i wr=>∃ k m:Nat,k≤n∧i = .int .i64 k∧wr=w.drewN m) (fun i _=>n-(intOf i).toNat)
 case atStart=>exact ⟨0,0,by omega,rfl,rfl⟩
 case round=>
  obtain ⟨k,m,hk,rfl,rfl⟩:=hrel
  by_cases hlt:k<n
  ·obtain ⟨x,hx⟩:∃ x,l[k]? = some x:=⟨_,List.getElem?_eq_getElem (by rw[HN.out];exact hlt)⟩
   obtain ⟨g1,o1,rfl,c1⟩:=hca k x hx
   obtain ⟨g2,o2,rfl,c2⟩:=hcb k x hx
   clear hca hcb hx
   go_wp2
   refine wp_letterW (fun w'=>(∃ m,w'=w.drewN m)∧w'.cell? ⟨g1,o1+k,none⟩=some (.string x)∧w'.cell? ⟨g2,o2+k,none⟩=some (.string x)) ⟨⟨m,rfl⟩,by simpa using c1,by simpa using c2⟩ ?_
   clear c1 c2
   rintro wq ⟨hm,c1,c2⟩
   go_quiet (fail)
   go_wp2
   go_roundw
   case rel=>
    obtain ⟨m',rfl⟩:=hm
    exact ⟨k+1,m'+nq,by omega,by go_num,by simp⟩
   case measure=>simp[intOf];omega
  ·go_wp2
   go_ret
   exact ⟨rfl,m,rfl⟩
theorem strings_made (n:Nat):madeCells (Value.string ByteArray.empty).cells (n*1)=(List.replicate n (Value.string ByteArray.empty)).toArray:=by
 apply Array.ext
 ·simp[madeCells]
 ·intro i h1 h2
  simp[madeCells,Value.cells,Nat.mod_one]
theorem infoStr:(Tryz.prog.info? 9).map (fun i=>(i.zero,i.size,i.bytes))=some (some (.string ByteArray.empty),1,16):=by kernel_rfl
theorem make_strs (n:Nat) (hn:n≤1099511627776) (w:World):(Instr.makeSlice 41 (.int .i64 (n:Nat)) (.int .i64 (n:Nat))).run Tryz.prog w = .ok (.slice (some ⟨w.heap.size,0,none⟩) n n) (w.alloc (.cells (List.replicate n (Value.string ByteArray.empty)).toArray 9)):=by
 obtain ⟨i0,hi,hz0,hz1,hz2⟩:=info_parts infoStr
 have h:=run_make (P:=Tryz.prog) w 41 9 i0 (.string ByteArray.empty) Tryz.underlying41 hi hz0 .i64 .i64 (n:Int) (n:Int) (by omega) (by omega) (by rw[hz2];omega) (by omega)
 rw[hz1] at h
 simp only[Int.toNat_natCast] at h
 rw[strings_made] at h
 exact h
def strV (l:List ByteArray):List Value:=l.map fun x=>Value.string x
theorem strV_one (l:List ByteArray):∀ v ∈ strV l,v.oneCell'=true:=by
 intro v hv
 obtain ⟨x,_,rfl⟩:=List.mem_map.1 hv
 rfl
theorem infoStr1:(Tryz.prog.info? 9).map (·.size)=some 1:=by kernel_rfl
set_option maxHeartbeats 800000 in
theorem copied_any (a:Value) (l:List ByteArray) (w:World) (ha:Strs w a l) (hl:l.length≤1099511627776):
  Calls Tryz.prog 66 #[a] w fun e w'=>e = .returned (.slice (some ⟨w.heap.size,0,none⟩) l.length l.length)∧Blk w' w.heap.size 9 (strV l)∧Below w.heap.size w w':=by
 obtain ⟨ao,ca,rfl,hca⟩:∃ ao c,a = .slice ao l.length c∧(0<l.length→∃ ad:Addr,ao=some ad∧∀ j v,(strV l)[j]? = some v→w.cell? (ad.add j)=some v):=by
  rcases ha with ⟨rfl,ao,c,rfl⟩ | ⟨g,o,c,rfl,h⟩
  ·exact ⟨ao,c,rfl,fun h=>by simp at h⟩
  ·refine ⟨_,c,rfl,fun _=>⟨_,rfl,fun j v hj=>?_⟩⟩
   rw[Addr.add_mid]
   unfold strV at hj
   rw[List.getElem?_map] at hj
   obtain ⟨x,hx,rfl⟩:=Option.map_eq_some_iff.1 hj
   exact h j x hx
 have hmk:=fun w=>make_strs l.length hl w
 have hlen:(strV l).length=l.length:=by simp[strV]
 have hsp:splice (List.replicate l.length (Value.string ByteArray.empty)) 0 (strV l)=strV l:=by
  unfold splice
  rw[List.take_zero,List.nil_append,List.drop_eq_nil_of_le (by simp[hlen]),List.append_nil]
 generalize hn:l.length=n at *
 have HL:=hide hlen
 have HS:=hide hsp
 clear hlen hsp hn
 go_enter Tryz.func66,Tryz.ntmps66
 go_wp2_with (refine wpList_copy_splice rfl (.tmp 7) (.tmp 8) 41 41 rfl 9 Tryz.underlying41 infoStr1 _ _ _ _ _ _ rfl rfl w.heap.size 0 (List.replicate n (Value.string ByteArray.empty)) 9 ?_ (strV l) ?_ ?_ ?_ (strV_one _) w.heap.size w ?_ (Nat.le_refl _) ?_;exact Blk.new rfl rfl;(rw[HL.out];exact (Nat.min_self n).symm);exact src_of hca HL.out;(rw[HL.out];simp);exact (Below.refl _ _).alloc (Nat.le_refl _) _;intro w2 HB2 hbe2)
 go_ret
 have hB:=HB2.out
 rw[HS.out] at hB
 exact ⟨rfl,hB,hbe2⟩
def intV (l:List Int):List Value:=l.map fun x=>Value.int .i64 x
theorem intV_at (l:List Int) (i:Nat) (h:i<l.length):(intV l)[i]? = some (.int .i64 l[i]):=by simp[intV,h]
theorem intV_set (l:List Int) (i:Nat) (x:Int):(intV l).set i (.int .i64 x)=intV (l.set i x):=by simp[intV,List.map_set]
theorem intV_one (l:List Int):∀ v ∈ intV l,v.oneCell'=true:=by
 intro v hv
 obtain ⟨x,_,rfl⟩:=List.mem_map.1 hv
 rfl
set_option maxHeartbeats 400000 in
theorem springOf_any (s:ByteArray) (w:World):
  Calls Tryz.prog 68 #[.string s] w fun e w'=>e = .returned (.pointer (some ⟨w.heap.size,0,none⟩))∧Blk w' w.heap.size 171 [.string s,.int .i64 0]∧Below w.heap.size w w':=by
 go_enter Tryz.func68,Tryz.ntmps68
 go_wp2
 go_ret
 exact ⟨rfl,Blk.new rfl rfl,(Below.refl _ _).alloc (Nat.le_refl _) _⟩
theorem ints_made (n:Nat):madeCells (Value.int .i64 0).cells (n*1)=(intV (List.replicate n 0)).toArray:=by
 apply Array.ext
 ·simp[madeCells,intV]
 ·intro i h1 h2
  simp[madeCells,Value.cells,Nat.mod_one,intV]
theorem make_ints (n:Nat) (hn:n≤1099511627776) (w:World):(Instr.makeSlice 24 (.int .i64 (n:Nat)) (.int .i64 (n:Nat))).run Tryz.prog w = .ok (.slice (some ⟨w.heap.size,0,none⟩) n n) (w.alloc (.cells (intV (List.replicate n 0)).toArray 3)):=by
 obtain ⟨i0,hi,hz0,hz1,hz2⟩:=info_parts infoInt
 have h:=run_make (P:=Tryz.prog) w 24 3 i0 (.int .i64 0) Tryz.underlying24 hi hz0 .i64 .i64 (n:Int) (n:Int) (by omega) (by omega) (by rw[hz2];omega) (by omega)
 rw[hz1] at h
 simp only[Int.toNat_natCast] at h
 rw[ints_made] at h
 exact h
theorem ints_src {w:World} {g g':Nat} {l:List Int} {o:Obj} (h:Blk w g 3 (intV l)):0<(intV l).length→some (⟨g',0,none⟩:Addr)=some ⟨g',0,none⟩∧∃ ad,some (⟨g,0,none⟩:Addr)=some ad∧∀ j v,(intV l)[j]? = some v→(w.alloc o).cell? (ad.add j)=some v:=
 fun _=>⟨rfl,_,rfl,fun j v hj=>by rw[Addr.add_mid,Nat.zero_add];exact (h.alloc o).cell hj⟩
theorem splice_ints (l m:List Int) (h:l.length=m.length):splice (intV l) 0 (intV m)=intV m:=by
 unfold splice
 rw[List.take_zero,List.nil_append,List.drop_eq_nil_of_le (by simp[intV,h]),List.append_nil]
set_option maxHeartbeats 400000 in
theorem sinkOf_any (g c:Nat) (l:List Int) (w:World) (hB:Blk w g 3 (intV l)) (hl:l.length≤1099511627776):
  Calls Tryz.prog 70 #[.slice (some ⟨g,0,none⟩) l.length c] w fun e w'=>∃ b,e = .returned (.pointer (some ⟨b,0,none⟩))∧w.heap.size<b ∧
   Blk w' w.heap.size 3 (intV l)∧Blk w' b 173 [.string ⟨#[]⟩,.slice (some ⟨w.heap.size,0,none⟩) l.length l.length,.int .i64 0]∧Below w.heap.size w w':=by
 have hmk:=fun w=>make_ints l.length hl w
 have hsp:=splice_ints (List.replicate l.length 0) l (by simp)
 have hlen:(intV l).length=l.length:=by simp[intV]
 generalize l.length=n at *
 have HS:=hide hsp
 have HL:=hide hlen
 clear hsp hlen
 go_enter Tryz.func70,Tryz.ntmps70
 go_wp2_with (refine wpList_copy_splice rfl (.tmp 7) (.tmp 8) 24 24 rfl 3 Tryz.underlying24 infoInt1 _ _ _ _ _ _ rfl rfl w.heap.size 0 (intV (List.replicate n 0)) 3 ?_ (intV l) ?_ ?_ ?_ (intV_one _) w.heap.size w ?_ (Nat.le_refl _) ?_;exact Blk.new rfl rfl;(rw[HL.out];exact (Nat.min_self n).symm);exact ints_src hB;(rw[HL.out];simp[intV]);exact (Below.refl _ _).alloc (Nat.le_refl _) _;intro w2 HB2 hbe2)
 go_ret
 have hB2:Blk w2 w.heap.size 3 (intV l):=by have:=HB2.out;rw[HS.out] at this;exact this
 exact ⟨_,rfl,hB2.lt,hB2.alloc _,Blk.new rfl rfl,hbe2.alloc (Nat.le_of_lt hB2.lt) _⟩
set_option maxHeartbeats 400000 in
theorem sourceOf_any (text:ByteArray) (g c:Nat) (l:List Int) (w:World) (hB:Blk w g 3 (intV l)) (hl:l.length≤1099511627776):
  Calls Tryz.prog 71 #[.string text,.slice (some ⟨g,0,none⟩) l.length c] w fun e w'=>∃ b,e = .returned (.pointer (some ⟨b,0,none⟩))∧w.heap.size<b ∧
   Blk w' w.heap.size 3 (intV l)∧Blk w' b 175 [.string text,.int .i64 0,.slice (some ⟨w.heap.size,0,none⟩) l.length l.length,.int .i64 0]∧Below w.heap.size w w':=by
 have hmk:=fun w=>make_ints l.length hl w
 have hsp:=splice_ints (List.replicate l.length 0) l (by simp)
 have hlen:(intV l).length=l.length:=by simp[intV]
 generalize l.length=n at *
 have HS:=hide hsp
 have HL:=hide hlen
 clear hsp hlen
 go_enter Tryz.func71,Tryz.ntmps71
 go_wp2_with (refine wpList_copy_splice rfl (.tmp 9) (.tmp 10) 24 24 rfl 3 Tryz.underlying24 infoInt1 _ _ _ _ _ _ rfl rfl w.heap.size 0 (intV (List.replicate n 0)) 3 ?_ (intV l) ?_ ?_ ?_ (intV_one _) w.heap.size w ?_ (Nat.le_refl _) ?_;exact Blk.new rfl rfl;(rw[HL.out];exact (Nat.min_self n).symm);exact ints_src hB;(rw[HL.out];simp[intV]);exact (Below.refl _ _).alloc (Nat.le_refl _) _;intro w2 HB2 hbe2)
 go_ret
 have hB2:Blk w2 w.heap.size 3 (intV l):=by have:=HB2.out;rw[HS.out] at this;exact this
 exact ⟨_,rfl,hB2.lt,hB2.alloc _,Blk.new rfl rfl,hbe2.alloc (Nat.le_of_lt hB2.lt) _⟩
set_option maxHeartbeats 400000 in
theorem sinkGot_any (b:Nat) (x:ByteArray) (w:World) (c:w.cell? ⟨b,0,none⟩=some (.string x)):
  Calls Tryz.prog 72 #[.pointer (some ⟨b,0,none⟩)] w fun e w'=>e = .returned (.string x)∧w'=w:=by
 go_enter Tryz.func72,Tryz.ntmps72
 go_wp2
 go_ret
 exact ⟨rfl,rfl⟩
set_option maxHeartbeats 400000 in
theorem sinkCalls_any (b:Nat) (x:Int) (w:World) (c:w.cell? ⟨b,2,none⟩=some (.int .i64 x)):
  Calls Tryz.prog 73 #[.pointer (some ⟨b,0,none⟩)] w fun e w'=>e = .returned (.int .i64 x)∧w'=w:=by
 go_enter Tryz.func73,Tryz.ntmps73
 go_wp2
 go_ret
 exact ⟨rfl,rfl⟩
set_option maxHeartbeats 400000 in
theorem place_any (b:Nat) (x:Int) (w:World) (c:w.cell? ⟨b,1,none⟩=some (.int .i64 x)):
  Calls Tryz.prog 135 #[.pointer (some ⟨b,0,none⟩)] w fun e w'=>e = .returned (.int .i64 x)∧w'=w:=by
 go_enter Tryz.func135,Tryz.ntmps135
 go_wp2
 go_ret
 exact ⟨rfl,rfl⟩
set_option maxHeartbeats 400000 in
theorem sourceCalls_any (b:Nat) (x:Int) (w:World) (c:w.cell? ⟨b,3,none⟩=some (.int .i64 x)):
  Calls Tryz.prog 136 #[.pointer (some ⟨b,0,none⟩)] w fun e w'=>e = .returned (.int .i64 x)∧w'=w:=by
 go_enter Tryz.func136,Tryz.ntmps136
 go_wp2
 go_ret
 exact ⟨rfl,rfl⟩
set_option maxHeartbeats 400000 in
theorem springLeft_any (b:Nat) (text:ByteArray) (x:Int) (w:World) (c0:w.cell? ⟨b,0,none⟩=some (.string text)) (c1:w.cell? ⟨b,1,none⟩=some (.int .i64 x)):
  Calls Tryz.prog 134 #[.pointer (some ⟨b,0,none⟩)] w fun e w'=>e = .returned (.int .i64 (IntKind.i64.wrap ((text.size:Int)-x)))∧∃ m,w'=w.drewN m:=by
 obtain ⟨y,hy⟩:∃ y,y=IntKind.i64.wrap ((text.size:Int)-x):=⟨_,rfl⟩
 rw[←hy]
 have hy':=hy.symm
 clear hy
 go_enter Tryz.func134,Tryz.ntmps134
 go_wp2
 go_quiet (fail)
 go_wp2
 go_ret
 exact ⟨rfl,_,rfl⟩
def ownK (k:Int):Bool:=[1,2,3,4,8,9,17,18,19,20,21,22,23,24,25].contains k
set_option maxHeartbeats 400000 in
theorem own_1 (w:World):Calls Tryz.prog 8 #[.int .i64 1] w fun e w'=>e = .returned (.bool true)∧w'=w:=by
 go_enter Tryz.func8,Tryz.ntmps8
 go_wp2
 go_ret
 exact ⟨rfl,rfl⟩
set_option maxHeartbeats 400000 in
theorem own_2 (w:World):Calls Tryz.prog 8 #[.int .i64 2] w fun e w'=>e = .returned (.bool true)∧w'=w:=by
 go_enter Tryz.func8,Tryz.ntmps8
 go_wp2
 go_ret
 exact ⟨rfl,rfl⟩
set_option maxHeartbeats 400000 in
theorem own_3 (w:World):Calls Tryz.prog 8 #[.int .i64 3] w fun e w'=>e = .returned (.bool true)∧w'=w:=by
 go_enter Tryz.func8,Tryz.ntmps8
 go_wp2
 go_ret
 exact ⟨rfl,rfl⟩
set_option maxHeartbeats 400000 in
theorem own_4 (w:World):Calls Tryz.prog 8 #[.int .i64 4] w fun e w'=>e = .returned (.bool true)∧w'=w:=by
 go_enter Tryz.func8,Tryz.ntmps8
 go_wp2
 go_ret
 exact ⟨rfl,rfl⟩
set_option maxHeartbeats 400000 in
theorem own_8 (w:World):Calls Tryz.prog 8 #[.int .i64 8] w fun e w'=>e = .returned (.bool true)∧w'=w:=by
 go_enter Tryz.func8,Tryz.ntmps8
 go_wp2
 go_ret
 exact ⟨rfl,rfl⟩
set_option maxHeartbeats 400000 in
theorem own_9 (w:World):Calls Tryz.prog 8 #[.int .i64 9] w fun e w'=>e = .returned (.bool true)∧w'=w:=by
 go_enter Tryz.func8,Tryz.ntmps8
 go_wp2
 go_ret
 exact ⟨rfl,rfl⟩
set_option maxHeartbeats 400000 in
theorem own_17 (w:World):Calls Tryz.prog 8 #[.int .i64 17] w fun e w'=>e = .returned (.bool true)∧w'=w:=by
 go_enter Tryz.func8,Tryz.ntmps8
 go_wp2
 go_ret
 exact ⟨rfl,rfl⟩
set_option maxHeartbeats 400000 in
theorem own_18 (w:World):Calls Tryz.prog 8 #[.int .i64 18] w fun e w'=>e = .returned (.bool true)∧w'=w:=by
 go_enter Tryz.func8,Tryz.ntmps8
 go_wp2
 go_ret
 exact ⟨rfl,rfl⟩
set_option maxHeartbeats 400000 in
theorem own_19 (w:World):Calls Tryz.prog 8 #[.int .i64 19] w fun e w'=>e = .returned (.bool true)∧w'=w:=by
 go_enter Tryz.func8,Tryz.ntmps8
 go_wp2
 go_ret
 exact ⟨rfl,rfl⟩
set_option maxHeartbeats 400000 in
theorem own_20 (w:World):Calls Tryz.prog 8 #[.int .i64 20] w fun e w'=>e = .returned (.bool true)∧w'=w:=by
 go_enter Tryz.func8,Tryz.ntmps8
 go_wp2
 go_ret
 exact ⟨rfl,rfl⟩
set_option maxHeartbeats 400000 in
theorem own_21 (w:World):Calls Tryz.prog 8 #[.int .i64 21] w fun e w'=>e = .returned (.bool true)∧w'=w:=by
 go_enter Tryz.func8,Tryz.ntmps8
 go_wp2
 go_ret
 exact ⟨rfl,rfl⟩
set_option maxHeartbeats 400000 in
theorem own_22 (w:World):Calls Tryz.prog 8 #[.int .i64 22] w fun e w'=>e = .returned (.bool true)∧w'=w:=by
 go_enter Tryz.func8,Tryz.ntmps8
 go_wp2
 go_ret
 exact ⟨rfl,rfl⟩
set_option maxHeartbeats 400000 in
theorem own_23 (w:World):Calls Tryz.prog 8 #[.int .i64 23] w fun e w'=>e = .returned (.bool true)∧w'=w:=by
 go_enter Tryz.func8,Tryz.ntmps8
 go_wp2
 go_ret
 exact ⟨rfl,rfl⟩
set_option maxHeartbeats 400000 in
theorem own_24 (w:World):Calls Tryz.prog 8 #[.int .i64 24] w fun e w'=>e = .returned (.bool true)∧w'=w:=by
 go_enter Tryz.func8,Tryz.ntmps8
 go_wp2
 go_ret
 exact ⟨rfl,rfl⟩
set_option maxHeartbeats 400000 in
theorem own_25 (w:World):Calls Tryz.prog 8 #[.int .i64 25] w fun e w'=>e = .returned (.bool true)∧w'=w:=by
 go_enter Tryz.func8,Tryz.ntmps8
 go_wp2
 go_ret
 exact ⟨rfl,rfl⟩
set_option maxHeartbeats 800000 in
theorem own_other (k:Int) (w:World) (h:ownK k=false):Calls Tryz.prog 8 #[.int .i64 k] w fun e w'=>e = .returned (.bool false)∧w'=w:=by
 have h1:(k==1)=false:=by cases hk:(k==1) with
  | false=>rfl
  | true=>simp[beq_iff_eq.1 hk,ownK] at h
 have h2:(k==2)=false:=by cases hk:(k==2) with
  | false=>rfl
  | true=>simp[beq_iff_eq.1 hk,ownK] at h
 have h3:(k==3)=false:=by cases hk:(k==3) with
  | false=>rfl
  | true=>simp[beq_iff_eq.1 hk,ownK] at h
 have h4:(k==4)=false:=by cases hk:(k==4) with
  | false=>rfl
  | true=>simp[beq_iff_eq.1 hk,ownK] at h
 have h8:(k==8)=false:=by cases hk:(k==8) with
  | false=>rfl
  | true=>simp[beq_iff_eq.1 hk,ownK] at h
 have h9:(k==9)=false:=by cases hk:(k==9) with
  | false=>rfl
  | true=>simp[beq_iff_eq.1 hk,ownK] at h
 have h17:(k==17)=false:=by cases hk:(k==17) with
  | false=>rfl
  | true=>simp[beq_iff_eq.1 hk,ownK] at h
 have h18:(k==18)=false:=by cases hk:(k==18) with
  | false=>rfl
  | true=>simp[beq_iff_eq.1 hk,ownK] at h
 have h19:(k==19)=false:=by cases hk:(k==19) with
  | false=>rfl
  | true=>simp[beq_iff_eq.1 hk,ownK] at h
 have h20:(k==20)=false:=by cases hk:(k==20) with
  | false=>rfl
  | true=>simp[beq_iff_eq.1 hk,ownK] at h
 have h21:(k==21)=false:=by cases hk:(k==21) with
  | false=>rfl
  | true=>simp[beq_iff_eq.1 hk,ownK] at h
 have h22:(k==22)=false:=by cases hk:(k==22) with
  | false=>rfl
  | true=>simp[beq_iff_eq.1 hk,ownK] at h
 have h23:(k==23)=false:=by cases hk:(k==23) with
  | false=>rfl
  | true=>simp[beq_iff_eq.1 hk,ownK] at h
 have h24:(k==24)=false:=by cases hk:(k==24) with
  | false=>rfl
  | true=>simp[beq_iff_eq.1 hk,ownK] at h
 have h25:(k==25)=false:=by cases hk:(k==25) with
  | false=>rfl
  | true=>simp[beq_iff_eq.1 hk,ownK] at h
 clear h
 go_enter Tryz.func8,Tryz.ntmps8
 go_wp2
 go_ret
 exact ⟨rfl,rfl⟩
theorem own_any (k:Int) (w:World):Calls Tryz.prog 8 #[.int .i64 k] w fun e w'=>e = .returned (.bool (ownK k))∧w'=w:=by
 by_cases h:ownK k=true
 ·rw[h]
  unfold ownK at h
  simp only[List.contains_cons,Bool.or_eq_true,beq_iff_eq,List.contains_nil,Bool.false_eq_true,or_false] at h
  rcases h with rfl | rfl | rfl | rfl | rfl | rfl | rfl | rfl | rfl | rfl | rfl | rfl | rfl | rfl | rfl
  ·exact own_1 w
  ·exact own_2 w
  ·exact own_3 w
  ·exact own_4 w
  ·exact own_8 w
  ·exact own_9 w
  ·exact own_17 w
  ·exact own_18 w
  ·exact own_19 w
  ·exact own_20 w
  ·exact own_21 w
  ·exact own_22 w
  ·exact own_23 w
  ·exact own_24 w
  ·exact own_25 w
 ·have h':ownK k=false:=by simpa using h
  rw[h']
  exact own_other k w h'
structure OpR where
 kind:Int
 a:Int
 b:Int
 c:Int
 s:ByteArray
 t:ByteArray
def OpR.cells (p:OpR):List Value:=[.int .i64 p.kind,.int .i64 p.a,.int .i64 p.b,.int .i64 p.c,.string p.s,.string p.t]
structure OpR.ok (p:OpR):Prop where
 kind : -9223372036854775808≤p.kind∧p.kind≤9223372036854775807
 a : -9223372036854775808≤p.a∧p.a≤9223372036854775807
 b : -9223372036854775808≤p.b∧p.b≤9223372036854775807
 c : -9223372036854775808≤p.c∧p.c≤9223372036854775807
 s:p.s.size≤140737488355328
 t:p.t.size≤140737488355328
def total (l:List OpR):Nat:=l.foldr (fun p n=>p.s.size+p.t.size+n) 0
theorem total_append (l m:List OpR):total (l++m)=total l+total m:=by
 induction l with
 | nil=>simp[total]
 | cons p l ih=>
  show p.s.size+p.t.size+total (l++m)=p.s.size+p.t.size+total l+total m
  rw[ih];omega
theorem total_take (l:List OpR) (k:Nat) (p:OpR) (h:l[k]? = some p):total (l.take (k+1))=total (l.take k)+(p.s.size+p.t.size):=by
 obtain ⟨hk,rfl⟩:=List.getElem?_eq_some_iff.1 h
 rw[List.take_succ_eq_append_getElem hk,total_append]
 simp[total]
theorem total_le (l:List OpR) (k:Nat):total (l.take k)≤total l:=by
 have:=total_append (l.take k) (l.drop k)
 rw[List.take_append_drop] at this
 omega
def Script (w:World) (v:Value) (l:List OpR):Prop:=
 (l=[]∧∃ ao c,v = .slice ao 0 c)∨∃ g o c,v = .slice (some ⟨g,o,none⟩) l.length c∧∀ i (p:OpR),l[i]? = some p→∀ j u,p.cells[j]? = some u→w.cell? ⟨g,o+i*6+j,none⟩=some u
def smallB (l:List OpR):Bool:=decide (l.length+total l≤1073741824)
set_option maxHeartbeats 800000 in
theorem small_any (v:Value) (l:List OpR) (w:World) (hv:Script w v l) (hok:∀ p ∈ l,p.ok) (hl:l.length≤1152921504606846976):
  Calls Tryz.prog 7 #[v] w fun e w'=>e = .returned (.bool (smallB l))∧∃ m,w'=w.drewN m:=by
 obtain ⟨ao,ca,rfl,hca⟩:∃ ao c,v = .slice ao l.length c∧∀ i p,l[i]? = some p→∃ g o,ao=some ⟨g,o,none⟩∧∀ j u,p.cells[j]? = some u→w.cell? ⟨g,o+i*6+j,none⟩=some u:=by
  rcases hv with ⟨rfl,ao,c,rfl⟩ | ⟨g,o,c,rfl,h⟩
  ·exact ⟨ao,c,rfl,fun i x h=>by simp at h⟩
  ·exact ⟨_,c,rfl,fun i x hx=>⟨g,o,rfl,h i x hx⟩⟩
 clear hv
 by_cases hbig:1073741824<l.length
 ·have hsm:smallB l=false:=by unfold smallB;exact decide_eq_false (by omega)
  rw[hsm]
  clear hsm hca
  generalize l.length=n at *
  go_enter Tryz.func7,Tryz.ntmps7
  go_wp2
  go_ret
  exact ⟨rfl,0,rfl⟩
 ·obtain ⟨sb,hsb⟩:∃ sb,smallB l=sb:=⟨_,rfl⟩
  rw[hsb]
  have hdef:smallB l=decide (l.length+total l≤1073741824):=rfl
  have htk:=total_take l
  have htl:=total_le l
  have hmem:∀ (k:Nat) (p:OpR),l[k]? = some p→p.ok:=fun k p h=>hok p (List.mem_of_getElem? h)
  generalize hn:l.length=n at *
  have HN:=hide hn
  have HSB:=hide hsb
  have HD:=hide hdef
  have HTK:=hide htk
  have HTL:=hide htl
  have HM:=hide hmem
  have HCA:=hide hca
  clear hn hsb hdef htk htl hmem hok hca
  go_enter Tryz.func7,Tryz.ntmps7
  go_wp2
  go_loopw [3,4] (fun c i wr=>∃ k q m:Nat,k≤n∧i = .int .i64 k∧q=n+total (l.take k)∧q≤1073741824∧c = .int .i64 (q:Nat)∧wr=w.drewN m) (fun _ i _=>n-(intOf i).toNat)
  case atStart=>exact ⟨0,n,0,by omega,rfl,by simp[total],by omega,rfl,rfl⟩
  case round=>
   obtain ⟨k,q,m,hk,rfl,hq,hq2,rfl,rfl⟩:=hrel
   by_cases hlt:k<n
   ·have hkl:k<l.length:=by rw[HN.out];exact hlt
    obtain ⟨p,hgk⟩:∃ p,l[k]? = some p:=⟨_,List.getElem?_eq_getElem hkl⟩
    obtain ⟨g,o,rfl,hc⟩:=HCA.out k _ hgk
    have hpk:=HM.out k p hgk
    have ht1:=HTK.out k p hgk
    have c4:=hc 4 _ rfl
    have c5:=hc 5 _ rfl
    have s4:=hpk.s
    have s5:=hpk.t
    have HQ:=hide hq
    have HT1:=hide ht1
    clear hq ht1 hc hpk hgk
    generalize p.s=ps at *
    generalize p.t=pt at *
    refine wp_letterW (fun w'=>(∃ m,w'=w.drewN m)∧w'.cell? ⟨g,o+k*6+4,none⟩=some (.string ps)∧w'.cell? ⟨g,o+k*6+5,none⟩=some (.string pt)) ⟨⟨m,rfl⟩,by simpa using c4,by simpa using c5⟩ ?_
    clear c4 c5
    rintro wq ⟨hm,c4,c5⟩
    have t1:IntKind.i64.wrap ((q:Int)+(ps.size:Int))=(q:Int)+(ps.size:Int):=IntWalk.i64_in _ (by omega)
    have t2:IntKind.i64.wrap ((q:Int)+(ps.size:Int)+(pt.size:Int))=(q:Int)+(ps.size:Int)+(pt.size:Int):=IntWalk.i64_in _ (by omega)
    go_wp2
    go_quiet (fail)
    clear t1 t2
    go_wp2
    ·have hgt:(1073741824:Int)<(q:Int)+(ps.size:Int)+(pt.size:Int):=by assumption
     go_ret
     obtain ⟨m',rfl⟩:=hm
     have h1:=HQ.out
     have h2:=HT1.out
     have h3:=HTL.out (k+1)
     have hf:sb=false:=by rw[←HSB.out,HD.out];exact decide_eq_false (by omega)
     rw[hf]
     exact ⟨rfl,m'+nq,by simp⟩
    ·have hle:(q:Int)+(ps.size:Int)+(pt.size:Int)≤1073741824:=by first | assumption | omega
     go_roundw
     case rel=>
      obtain ⟨m',rfl⟩:=hm
      exact ⟨k+1,q+ps.size+pt.size,m'+nq,by omega,by go_num,by rw[HT1.out,HQ.out];omega,by omega,by go_num,by simp⟩
     case measure=>simp[intOf];omega
   ·have hkn:k=n:=by omega
    have hf:sb=true:=by
     rw[←HSB.out,HD.out]
     rw[hkn,List.take_of_length_le (by rw[HN.out];exact Nat.le_refl _)] at hq
     exact decide_eq_true (by omega)
    clear hq
    go_wp2
    go_ret
    rw[hf]
    exact ⟨rfl,m,rfl⟩
theorem plan_one {wr:World} {b n k:Nat} {l:List Int} (hl:l.length=n) (hB:Blk wr b 3 (intV l)) (x:Int):∃ l':List Int,l'.length=n∧Blk (wr.setCell ⟨b,k,none⟩ (.int .i64 x)) b 3 (intV l'):=
 ⟨l.set k x,by simp[hl],by rw[←intV_set];exact hB.setCell_same k _⟩
set_option maxHeartbeats 1600000 in
theorem plan_any (s:ByteArray) (w:World) (hs:s.size≤1099511627776):
  Calls Tryz.prog 69 #[.string s] w fun e w'=>∃ l:List Int,l.length=s.size∧e = .returned (.slice (some ⟨w.heap.size,0,none⟩) s.size s.size)∧Blk w' w.heap.size 3 (intV l)∧Below w.heap.size w w':=by
 have hmk:=fun w=>make_ints s.size hs w
 go_enter Tryz.func69,Tryz.ntmps69
 go_wp2
 clear hmk
 go_loopw [4] (fun i wr=>∃ (k:Nat) (l:List Int),k≤s.size∧i = .int .i64 k∧l.length=s.size∧Blk wr w.heap.size 3 (intV l)∧Below w.heap.size w wr) (fun i _=>s.size-(intOf i).toNat)
 case atStart=>exact ⟨0,List.replicate s.size 0,by omega,rfl,by simp,Blk.new rfl rfl,(Below.refl _ _).alloc (Nat.le_refl _) _⟩
 case round=>
  obtain ⟨k,l,hk,rfl,hl,hB,hbe⟩:=hrel
  by_cases hlt:k<s.size
  ·obtain ⟨x0,hx0⟩:∃ x,(intV l)[k]? = some (.int .i64 x):=⟨_,intV_at l k (by omega)⟩
   have c0:=hB.cell hx0
   clear hx0
   have f0:=hB.frozen k
   have hXl:s[k].toNat<256:=UInt8.toNat_lt _
   obtain ⟨X,hX⟩:∃ X,s[k].toNat=X:=⟨_,rfl⟩
   rw[hX] at hXl
   have tw:wrap64 (X:Int)=(X:Int):=IntWalk.wrap64_in _ (by omega)
   have HL:=hide hl
   clear hl
   rcases Nat.lt_trichotomy X 127 with h | h | h
   ·have t1:((X:Int)==127)=false:=beq_eq_false_iff_ne.2 (by omega)
    have t2:¬ (127:Int)<(X:Int):=by omega
    go_wp2
    go_roundw
    case rel=>
     obtain ⟨l1,h1,h2⟩:=plan_one (k:=k) HL.out hB (X:Int)
     exact ⟨k+1,l1,by omega,by go_num,h1,h2,hbe.setCell (by simp) _⟩
    case measure=>simp[intOf];omega
   ·subst h
    go_wp2
    go_roundw
    case rel=>
     obtain ⟨l1,h1,h2⟩:=plan_one (k:=k) HL.out hB 127
     obtain ⟨l2,h3,h4⟩:=plan_one (k:=k) h1 h2 1099511627776
     exact ⟨k+1,l2,by omega,by go_num,h3,h4,(hbe.setCell (by simp) _).setCell (by simp) _⟩
    case measure=>simp[intOf];omega
   ·have t1:((X:Int)==127)=false:=beq_eq_false_iff_ne.2 (by omega)
    have t2:(127:Int)<(X:Int):=by omega
    have t3:(X:Int)<256:=by omega
    go_wp2
    go_roundw
    case rel=>
     obtain ⟨l1,h1,h2⟩:=plan_one (k:=k) HL.out hB (X:Int)
     obtain ⟨l2,h3,h4⟩:=plan_one (k:=k) h1 h2 ((X:Int)-256)
     exact ⟨k+1,l2,by omega,by go_num,h3,h4,(hbe.setCell (by simp) _).setCell (by simp) _⟩
    case measure=>simp[intOf];omega
  ·go_wp2
   go_ret
   exact ⟨l,hl,rfl,hB,hbe⟩
def u8V (l:List UInt8):List Value:=l.map fun x:UInt8=>Value.int .u8 ((x.toNat:Nat):Int)
def u32V (l:List Nat):List Value:=l.map fun x:Nat=>Value.int .u32 ((x:Nat):Int)
def zeros32 (n:Nat):List Nat:=List.replicate n 0
theorem u8V_at (b:List UInt8) (i:Nat) (h:i<b.length):(u8V b)[i]? = some (.int .u8 (Sha.by8 b i:Nat)):=by
 simp[u8V,Sha.by8,h]
theorem u32V_new (l:List Nat) (n k:Nat) (hl:l.length=k) (hn:0<n):(u32V (l++zeros32 n))[k]? = some (.int .u32 0):=by
 subst hl
 simp[u32V,zeros32,hn]
theorem u32V_one (l:List Nat):∀ v ∈ u32V l,v.oneCell'=true:=by
 intro v hv
 obtain ⟨x,_,rfl⟩:=List.mem_map.1 hv
 rfl
theorem u32V_set (l:List Nat) (n k x:Nat) (hl:l.length=k) (hn:0<n):
  (u32V (l++zeros32 n)).set k (.int .u32 (x:Int))=u32V ((l++[x])++zeros32 (n-1)):=by
 subst hl
 obtain ⟨m,rfl⟩:∃ m,n=m+1:=⟨n-1,by omega⟩
 simp[u32V,zeros32,List.replicate_succ,List.set_append_right]
theorem u32V_at (l:List Nat) (n i:Nat) (hi:i<l.length):(u32V (l++zeros32 n))[i]? = some (.int .u32 (Sha.wAt l i:Nat)):=by
 simp[u32V,Sha.wAt,hi,List.getElem?_append_left]
theorem or_shift (a b n:Nat) (hb:b<2 ^ n):a*2 ^ n ||| b=a*2 ^ n+b:=by
 rw[←Nat.shiftLeft_eq,Nat.shiftLeft_add_eq_or_of_lt hb]
theorem be_int (b:List UInt8) (k:Nat):
  bits .or .u32 (bits .or .u32 (bits .or .u32 ((Sha.by8 b (4*k):Nat)%4294967296*16777216%4294967296:Int) ((Sha.by8 b (4*k+1):Nat)%4294967296*65536%4294967296:Int))
   ((Sha.by8 b (4*k+2):Nat)%4294967296*256%4294967296:Int)) ((Sha.by8 b (4*k+3):Nat)%4294967296:Int)=(Sha.be b k:Nat):=by
 have h1:=Sha.by8_lt b (4*k)
 have h2:=Sha.by8_lt b (4*k+1)
 have h3:=Sha.by8_lt b (4*k+2)
 have h4:=Sha.by8_lt b (4*k+3)
 unfold Sha.be
 generalize Sha.by8 b (4*k)=x at *
 generalize Sha.by8 b (4*k+1)=y at *
 generalize Sha.by8 b (4*k+2)=z at *
 generalize Sha.by8 b (4*k+3)=t at *
 have e1:((x:Int)%4294967296*16777216%4294967296)=((x*16777216:Nat):Int):=by omega
 have e2:((y:Int)%4294967296*65536%4294967296)=((y*65536:Nat):Int):=by omega
 have e3:((z:Int)%4294967296*256%4294967296)=((z*256:Nat):Int):=by omega
 have e4:((t:Int)%4294967296)=((t:Nat):Int):=by omega
 have o1:x*16777216 ||| y*65536=x*16777216+y*65536:=or_shift x (y*65536) 24 (by omega)
 have o2:(x*16777216+y*65536) ||| z*256=x*16777216+y*65536+z*256:=by
  have:=or_shift (x*256+y) (z*256) 16 (by omega)
  rw[show (x*256+y)*2 ^ 16=x*16777216+y*65536 by omega] at this
  exact this
 have o3:(x*16777216+y*65536+z*256) ||| t=x*16777216+y*65536+z*256+t:=by
  have:=or_shift (x*65536+y*256+z) t 8 (by omega)
  rw[show (x*65536+y*256+z)*2 ^ 8=x*16777216+y*65536+z*256 by omega] at this
  exact this
 rw[e1,e2,e3,e4,u32_or_nat _ _ (by omega) (by omega),o1,u32_or_nat _ _ (by omega) (by omega),o2,u32_or_nat _ _ (by omega) (by omega),o3]
 omega
theorem sched_lo (b:List UInt8) (k:Nat) (hk:k<16):Sha.sched b k++[Sha.be b k]=Sha.sched b (k+1):=by
 show _=Sha.sched b k++[Sha.schedStep b (Sha.sched b k) k]
 rw[Sha.schedStep,if_pos hk]
theorem sched_hi (b:List UInt8) (k:Nat) (hk:¬ k<16):
  Sha.sched b k++[(Sha.wAt (Sha.sched b k) (k-16)+Sha.s0 (Sha.wAt (Sha.sched b k) (k-15))+Sha.wAt (Sha.sched b k) (k-7)+Sha.s1 (Sha.wAt (Sha.sched b k) (k-2)))%4294967296]=Sha.sched b (k+1):=by
 show _=Sha.sched b k++[Sha.schedStep b (Sha.sched b k) k]
 rw[Sha.schedStep,if_neg hk]
 congr 3
 omega
theorem spread_lo (b:List UInt8) (w wr:World) (k:Nat) (v:Int) (hk:k<16) (hv:v=(Sha.be b k:Nat)) (hB0:Blk wr w.heap.size 132 (u8V b)) (hB1:Blk wr (w.heap.size+1) 214 (u32V (zeros32 64)))
  (hB2:Blk wr (w.heap.size+1+1) 214 (u32V (Sha.sched b k++zeros32 (64-k)))) (hbe:Below w.heap.size w wr):
  Blk (wr.setCell ⟨w.heap.size+1+1,k,none⟩ (.int .u32 v)).drew w.heap.size 132 (u8V b)∧Blk (wr.setCell ⟨w.heap.size+1+1,k,none⟩ (.int .u32 v)).drew (w.heap.size+1) 214 (u32V (zeros32 64)) ∧
  Blk (wr.setCell ⟨w.heap.size+1+1,k,none⟩ (.int .u32 v)).drew (w.heap.size+1+1) 214 (u32V (Sha.sched b (k+1)++zeros32 (64-(k+1)))) ∧
  Below w.heap.size w (wr.setCell ⟨w.heap.size+1+1,k,none⟩ (.int .u32 v)).drew:=by
 subst hv
 refine ⟨(hB0.setCell_other _ _ (by simp;omega)).drew,(hB1.setCell_other _ _ (by simp)).drew,?_,(hbe.setCell (by simp;omega) _).drew⟩
 have:=(hB2.setCell_same k (.int .u32 (Sha.be b k:Nat))).drew
 rw[u32V_set _ _ _ _ (Sha.sched_len b k) (by omega),sched_lo b k hk] at this
 exact this
theorem spread_hi (b:List UInt8) (w wr:World) (k ia ib ic id:Nat) (h16:¬ k<16) (hk:k<64) (hia:ia+16=k) (hib:ib+15=k) (hic:ic+7=k) (hid:id+2=k)
  (hB1:Blk wr (w.heap.size+1) 214 (u32V (zeros32 64))) (hB2:Blk wr (w.heap.size+1+1) 214 (u32V (Sha.sched b k++zeros32 (64-k)))) (hbe:Below w.heap.size w wr)
  (v:Int) (hv:v=((Sha.wAt (Sha.sched b k) ia+Sha.s0 (Sha.wAt (Sha.sched b k) ib)+Sha.wAt (Sha.sched b k) ic+Sha.s1 (Sha.wAt (Sha.sched b k) id))%4294967296:Nat)):
  Blk (wr.setCell ⟨w.heap.size+1+1,k,none⟩ (.int .u32 v)).drew (w.heap.size+1) 214 (u32V (zeros32 64)) ∧
  Blk (wr.setCell ⟨w.heap.size+1+1,k,none⟩ (.int .u32 v)).drew (w.heap.size+1+1) 214 (u32V (Sha.sched b (k+1)++zeros32 (64-(k+1)))) ∧
  Below w.heap.size w (wr.setCell ⟨w.heap.size+1+1,k,none⟩ (.int .u32 v)).drew:=by
 subst hv
 refine ⟨(hB1.setCell_other _ _ (by simp)).drew,?_,(hbe.setCell (by simp;omega) _).drew⟩
 have:=(hB2.setCell_same k (.int .u32 ((Sha.wAt (Sha.sched b k) ia+Sha.s0 (Sha.wAt (Sha.sched b k) ib)+Sha.wAt (Sha.sched b k) ic+Sha.s1 (Sha.wAt (Sha.sched b k) id))%4294967296:Nat))).drew
 obtain rfl:ia=k-16:=by omega
 obtain rfl:ib=k-15:=by omega
 obtain rfl:ic=k-7:=by omega
 obtain rfl:id=k-2:=by omega
 rw[u32V_set _ _ _ _ (Sha.sched_len b k) (by omega),sched_hi b k h16] at this
 exact this
set_option maxHeartbeats 1600000 in
theorem spread_any (b:List UInt8) (w:World) (hb:b.length=64):
  Calls Tryz.prog 161 #[.agg (u8V b).toArray] w fun e w'=>e = .returned (.agg (u32V (Sha.sched b 64)).toArray)∧Below w.heap.size w w':=by
 go_enter Tryz.func161,Tryz.ntmps161
 go_wp2
 go_loopw [4] (fun i wr=>∃ k:Nat,k≤16∧i = .int .i64 k∧Blk wr w.heap.size 132 (u8V b)∧Blk wr (w.heap.size+1) 214 (u32V (zeros32 64))∧Blk wr (w.heap.size+1+1) 214 (u32V (Sha.sched b k++zeros32 (64-k)))∧Below w.heap.size w wr) (fun i _=>16-(intOf i).toNat)
 case atStart=>
  refine ⟨0,by omega,rfl,?_,?_,?_,?_⟩
  ·exact ((Blk.new rfl rfl).alloc _).alloc _
  ·exact (Blk.new (by simp) rfl).alloc _
  ·exact (Blk.new (by simp) rfl)
  ·exact (((Below.refl _ _).alloc (Nat.le_refl _) _).alloc (by simp) _).alloc (by simp;omega) _
 case round=>
  obtain ⟨k,hk,rfl,hB0,hB1,hB2,hbe⟩:=hrel
  by_cases hlt:k<16
  ·have c0:=hB0.cell (u8V_at b (4*k) (by omega))
   have c1:=hB0.cell (u8V_at b (4*k+1) (by omega))
   have c2:=hB0.cell (u8V_at b (4*k+2) (by omega))
   have c3:=hB0.cell (u8V_at b (4*k+3) (by omega))
   have f2:=hB2.frozen k
   have c4:=hB2.cell (u32V_new (Sha.sched b k) (64-k) k (Sha.sched_len b k) (by omega))
   have i0:(0:Int)≤4*(k:Int):=by omega
   have i1:4*(k:Int)<64:=by omega
   have i2:(0:Int)≤4*(k:Int)+1:=by omega
   have i3:4*(k:Int)+1<64:=by omega
   have i4:(0:Int)≤4*(k:Int)+2:=by omega
   have i5:4*(k:Int)+2<64:=by omega
   have i6:(0:Int)≤4*(k:Int)+3:=by omega
   have i7:4*(k:Int)+3<64:=by omega
   have n0:(4*(k:Int)).toNat=4*k:=by omega
   have n1:(4*(k:Int)+1).toNat=4*k+1:=by omega
   have n2:(4*(k:Int)+2).toNat=4*k+2:=by omega
   have n3:(4*(k:Int)+3).toNat=4*k+3:=by omega
   have j0:(k:Int)<64:=by omega
   have q0:IntKind.i64.wrap (4*(k:Int))=4*(k:Int):=IntWalk.i64_in _ (by omega)
   have q1:IntKind.i64.wrap (4*(k:Int)+1)=4*(k:Int)+1:=IntWalk.i64_in _ (by omega)
   have q2:IntKind.i64.wrap (4*(k:Int)+2)=4*(k:Int)+2:=IntWalk.i64_in _ (by omega)
   have q3:IntKind.i64.wrap (4*(k:Int)+3)=4*(k:Int)+3:=IntWalk.i64_in _ (by omega)
   go_wp2
   go_region_held3 (fun w'=>w'.cell? ⟨w.heap.size,4*k,none⟩=some (.int .u8 (Sha.by8 b (4*k):Nat))∧w'.cell? ⟨w.heap.size,4*k+1,none⟩=some (.int .u8 (Sha.by8 b (4*k+1):Nat))∧w'.cell? ⟨w.heap.size,4*k+2,none⟩=some (.int .u8 (Sha.by8 b (4*k+2):Nat))∧w'.cell? ⟨w.heap.size,4*k+3,none⟩=some (.int .u8 (Sha.by8 b (4*k+3):Nat))) (first | (go_keep;done) | (refine ⟨?_,?_,?_,?_⟩ <;> (rw[cell_other];(first | exact c0 | exact c1 | exact c2 | exact c3);(dsimp only;omega)))) (fail)
   go_wp2
   go_roundw
   case rel=>exact ⟨k+1,by omega,by go_num,spread_lo b w wr k _ hlt (be_int b k) hB0 hB1 hB2 hbe⟩
   case measure=>simp[intOf];omega
  ·have h16:k=16:=by omega
   rw[h16] at hB2
   clear h16
   go_wp2
   go_loopw [5] (fun i wr=>∃ k:Nat,16≤k∧k≤64∧i = .int .i64 k∧Blk wr (w.heap.size+1) 214 (u32V (zeros32 64))∧Blk wr (w.heap.size+1+1) 214 (u32V (Sha.sched b k++zeros32 (64-k)))∧Below w.heap.size w wr) (fun i _=>64-(intOf i).toNat)
   case atStart=>exact ⟨16,by omega,by omega,rfl,hB1,hB2,hbe⟩
   case round=>
    clear hB0 hB1 hB2 hbe hlt hk
    obtain ⟨k,hk0,hk,rfl,hB1,hB2,hbe⟩:=hrel
    by_cases hlt:k<64
    ·obtain ⟨ia,hia⟩:∃ a:Nat,a+16=k:=⟨k-16,by omega⟩
     obtain ⟨ib,hib⟩:∃ a:Nat,a+15=k:=⟨k-15,by omega⟩
     obtain ⟨ic,hic⟩:∃ a:Nat,a+7=k:=⟨k-7,by omega⟩
     obtain ⟨id,hid⟩:∃ a:Nat,a+2=k:=⟨k-2,by omega⟩
     have c0:=hB2.cell (u32V_at (Sha.sched b k) (64-k) ia (by rw[Sha.sched_len];omega))
     have c1:=hB2.cell (u32V_at (Sha.sched b k) (64-k) ib (by rw[Sha.sched_len];omega))
     have c2:=hB2.cell (u32V_at (Sha.sched b k) (64-k) ic (by rw[Sha.sched_len];omega))
     have c3:=hB2.cell (u32V_at (Sha.sched b k) (64-k) id (by rw[Sha.sched_len];omega))
     have f2:=hB2.frozen k
     have c4:=hB2.cell (u32V_new (Sha.sched b k) (64-k) k (Sha.sched_len b k) (by omega))
     have i1:(ia:Int)<64:=by omega
     have i3:(ib:Int)<64:=by omega
     have i5:(ic:Int)<64:=by omega
     have i7:(id:Int)<64:=by omega
     have j0:(k:Int)<64:=by omega
     have na:k≠ia:=by omega
     have nb:k≠ib:=by omega
     have nc:k≠ic:=by omega
     have nd:k≠id:=by omega
     have q0:IntKind.i64.wrap ((k:Int)-16)=(ia:Int):=(IntWalk.i64_in _ (by omega)).trans (by omega)
     have q1:IntKind.i64.wrap ((k:Int)-15)=(ib:Int):=(IntWalk.i64_in _ (by omega)).trans (by omega)
     have q2:IntKind.i64.wrap ((k:Int)-7)=(ic:Int):=(IntWalk.i64_in _ (by omega)).trans (by omega)
     have q3:IntKind.i64.wrap ((k:Int)-2)=(id:Int):=(IntWalk.i64_in _ (by omega)).trans (by omega)
     have R:=spread_hi b w wr k ia ib ic id (by omega) hlt hia hib hic hid hB1 hB2 hbe
     have HR:=hide R
     clear R hia hib hic hid
     go_wp2
     go_region_held3 (fun w'=>w'.cell? ⟨w.heap.size+1+1,ia,none⟩=some (.int .u32 (Sha.wAt (Sha.sched b k) ia:Nat))∧w'.cell? ⟨w.heap.size+1+1,ib,none⟩=some (.int .u32 (Sha.wAt (Sha.sched b k) ib:Nat))∧w'.cell? ⟨w.heap.size+1+1,ic,none⟩=some (.int .u32 (Sha.wAt (Sha.sched b k) ic:Nat))∧w'.cell? ⟨w.heap.size+1+1,id,none⟩=some (.int .u32 (Sha.wAt (Sha.sched b k) id:Nat))) (refine ⟨?_,?_,?_,?_⟩ <;> first | assumption | (rw[cell_off _ _ _ _ _ (by assumption)];assumption)) (first | (go_at_call 205;refine (smallS_any _ _ ?_).mono ?_;exact Sha.wAt_sched_lt b k _;rintro e w' ⟨rfl,rfl⟩) | (go_at_call 206;refine (smallZ_any _ _ ?_).mono ?_;exact Sha.wAt_sched_lt b k _;rintro e w' ⟨rfl,rfl⟩))
     go_wp2
     go_roundw
     case rel=>exact ⟨k+1,by omega,by omega,by go_num,HR.out _ (by omega)⟩
     case measure=>simp[intOf];omega
    ·obtain rfl:k=64:=by omega
     have hr:wr.rangeAt (w.heap.size+1+1) 0 (u32V (Sha.sched b 64)):=by simpa [zeros32] using hB2.rangeAll
     have ht:wr.there (w.heap.size+1) 0 (u32V (Sha.sched b 64)).toArray.size:=hB1.there 0 _ (by simp[u32V,zeros32,Sha.sched_len])
     have HR:=hide hr
     have HT:=hide ht
     clear hr ht
     go_wp2_with (first | (refine wpList_load_mid rfl 214 (.tmp 3) rfl (w.heap.size+1+1) 0 rfl (u32V (Sha.sched b 64)) (.array 64 130) HR.out Tryz.underlying214 rfl (by kernel_rfl) ?_) | (refine wpList_store_mid rfl 214 (.tmp 2) (.tmp 68) rfl (w.heap.size+1) 0 (u32V (Sha.sched b 64)).toArray rfl rfl HT.out (by kernel_rfl) (all_oneCell_toArray (u32V_one _)) ?_))
     have hst:(wr.setCells (w.heap.size+1) 0 (u32V (Sha.sched b 64))).rangeAt (w.heap.size+1) 0 (u32V (Sha.sched b 64)):=World.rangeAt_setCells_same _ _ _ _ (by simpa using HT.out)
     exact ret_row Tryz.results161 (w.heap.size+1) 0 rfl (u32V (Sha.sched b 64)) (.array 64 130) hst Tryz.underlying214 rfl (by kernel_rfl) rfl ⟨rfl,Below.setCells _ (by omega) _ _ _ hbe⟩
def KTab (w:World):Prop:=∀ i,i<64→w.cell? ⟨1,i,none⟩=some (.int .u32 (Sha.wAt Sha.Kt i:Nat))
def HTab (w:World):Prop:=∀ i,i<8→w.cell? ⟨0,i,none⟩=some (.int .u32 (Sha.wAt Sha.H0.list i:Nat))
theorem KTab.below {w w':World} {B:Nat} (h:KTab w) (hb:Below B w w') (hB:2≤B):KTab w':=fun i hi=>(hb.cell (show 1<B by omega)).trans (h i hi)
theorem KTab.grown {w w':World} {b:Nat} (h:KTab w) (hb:w.grownBy w' (some b)) (h2:2≤b) (hs:2≤w.heap.size):KTab w':=fun i hi=>
 (World.cell?_of_block (hb.block 1 (by omega) (by simp;omega))).trans (h i hi)
theorem HTab.below {w w':World} {B:Nat} (h:HTab w) (hb:Below B w w') (hB:2≤B):HTab w':=fun i hi=>(hb.cell (show 0<B by omega)).trans (h i hi)
def st8 (s:Sha.St):Array Value:=#[.int .u32 (s.a:Nat),.int .u32 (s.b:Nat),.int .u32 (s.c:Nat),.int .u32 (s.d:Nat),.int .u32 (s.e:Nat),.int .u32 (s.f:Nat),.int .u32 (s.g:Nat),.int .u32 (s.h:Nat)]
theorem u32V_in (l:List Nat) (i:Nat) (hi:i<l.length):(u32V l)[i]? = some (.int .u32 (Sha.wAt l i:Nat)):=by
 simp[u32V,Sha.wAt,hi]
theorem mix_round (s:Sha.St) (ws:List Nat) (k:Nat):Sha.rnds ws s (k+1)=Sha.rnd (Sha.wAt Sha.Kt k) (Sha.wAt ws k) (Sha.rnds ws s k):=rfl
theorem rnd_a (k w:Nat) (r:Sha.St):((((r.h:Int)+(Sha.b1 r.e:Nat)+(Sha.ch r.e r.f r.g:Nat)+(k:Nat)+(w:Nat))%4294967296+((Sha.b0 r.a:Nat)+(Sha.maj r.a r.b r.c:Nat):Int)%4294967296)%4294967296:Int)=((Sha.rnd k w r).a:Nat):=by
 simp only[Sha.rnd];omega
theorem rnd_e (k w:Nat) (r:Sha.St):(((r.d:Int)+((r.h:Int)+(Sha.b1 r.e:Nat)+(Sha.ch r.e r.f r.g:Nat)+(k:Nat)+(w:Nat))%4294967296)%4294967296:Int)=((Sha.rnd k w r).e:Nat):=by
 simp only[Sha.rnd];omega
theorem add8 (s r:Sha.St) : #[Value.int .u32 (((s.a:Int)+(r.a:Int))%4294967296),.int .u32 (((s.b:Int)+(r.b:Int))%4294967296),.int .u32 (((s.c:Int)+(r.c:Int))%4294967296),.int .u32 (((s.d:Int)+(r.d:Int))%4294967296),.int .u32 (((s.e:Int)+(r.e:Int))%4294967296),.int .u32 (((s.f:Int)+(r.f:Int))%4294967296),.int .u32 (((s.g:Int)+(r.g:Int))%4294967296),.int .u32 (((s.h:Int)+(r.h:Int))%4294967296)]=st8 (Sha.addSt s r):=by
 have e (x y:Nat):((x:Int)+(y:Int))%4294967296=((x+y)%4294967296:Nat):=by omega
 simp only[e]
 rfl
set_option maxHeartbeats 1600000 in
theorem mix_any (s:Sha.St) (ws:List Nat) (w:World) (hs:s.ok) (hw:ws.length=64) (hk:KTab w) (hB:2≤w.heap.size):
  Calls Tryz.prog 162 #[.agg (st8 s),.agg (u32V ws).toArray] w fun e w'=>e = .returned (.agg (st8 (Sha.addSt s (Sha.rnds ws s 64))))∧Below w.heap.size w w':=by
 unfold st8
 go_enter Tryz.func162,Tryz.ntmps162
 go_wp2
 go_loopw [5,6,7,8,9,10,11,12,13] (fun a b c d e f g h t wr=>∃ k:Nat,k≤64∧t = .int .i64 k∧a = .int .u32 ((Sha.rnds ws s k).a:Nat)∧b = .int .u32 ((Sha.rnds ws s k).b:Nat)∧c = .int .u32 ((Sha.rnds ws s k).c:Nat)∧d = .int .u32 ((Sha.rnds ws s k).d:Nat)∧e = .int .u32 ((Sha.rnds ws s k).e:Nat)∧f = .int .u32 ((Sha.rnds ws s k).f:Nat)∧g = .int .u32 ((Sha.rnds ws s k).g:Nat)∧h = .int .u32 ((Sha.rnds ws s k).h:Nat)∧Blk wr w.heap.size 131 (u32V s.list)∧Blk wr (w.heap.size+1) 214 (u32V ws)∧Blk wr (w.heap.size+1+1) 131 (u32V (zeros32 8))∧Below w.heap.size w wr) (fun _ _ _ _ _ _ _ _ t _=>64-(intOf t).toNat)
 case atStart=>
  refine ⟨0,by omega,rfl,rfl,rfl,rfl,rfl,rfl,rfl,rfl,rfl,?_,?_,?_,?_⟩
  ·exact ((Blk.new rfl rfl).alloc _).alloc _
  ·exact (Blk.new (by simp) rfl).alloc _
  ·exact (Blk.new (by simp) rfl)
  ·exact (((Below.refl _ _).alloc (Nat.le_refl _) _).alloc (by simp) _).alloc (by simp;omega) _
 case round=>
  obtain ⟨k,hk',rfl,rfl,rfl,rfl,rfl,rfl,rfl,rfl,rfl,hB0,hB1,hB2,hbe⟩:=hrel
  have ok:=Sha.rnds_ok ws s k hs
  by_cases hlt:k<64
  ·have c0:=hk.below hbe hB k hlt
   have c1:=hB1.cell (u32V_in ws k (by omega))
   have j0:(k:Int)<64:=by omega
   have R:=mix_round s ws k
   generalize hr:Sha.rnds ws s k=r at *
   have HR:=hide R
   clear R hr
   go_wp2
   go_quiet ((first | (go_at_call 207;exact Calls.quiet_of_same (bigS_any _ _ ok.e)) | (go_at_call 208;exact Calls.quiet_of_same (choice_any _ _ _ _ ok.e ok.f ok.g))))
   go_wp2_with fail
   refine (bigZ_any _ _ ok.a).mono ?_
   rintro e w' ⟨rfl,rfl⟩
   go_wp2_with fail
   refine (majority_any _ _ _ _ ok.a ok.b ok.c).mono ?_
   rintro e w' ⟨rfl,rfl⟩
   go_wp2
   go_roundw
   case rel=>
    refine ⟨k+1,by omega,by go_num,?_⟩
    rw[HR.out]
    refine ⟨int_c ?_,rfl,rfl,rfl,int_c ?_,rfl,rfl,rfl,hB0.drewN _,hB1.drewN _,hB2.drewN _,below_drewN hbe _⟩
    ·exact rnd_a _ _ r
    ·exact rnd_e _ _ r
   case measure=>simp[intOf];omega
  ·have h64:k=64:=by omega
   have c0:=hB0.cell (i:=0) rfl
   have c1:=hB0.cell (i:=1) rfl
   have c2:=hB0.cell (i:=2) rfl
   have c3:=hB0.cell (i:=3) rfl
   have c4:=hB0.cell (i:=4) rfl
   have c5:=hB0.cell (i:=5) rfl
   have c6:=hB0.cell (i:=6) rfl
   have c7:=hB0.cell (i:=7) rfl
   rw[h64] at ok ⊢
   clear h64
   generalize hr:Sha.rnds ws s 64=r at *
   have HR:=hide hr
   clear hr
   have d0:=hB2.cell (i:=0) rfl
   have d1:=hB2.cell (i:=1) rfl
   have d2:=hB2.cell (i:=2) rfl
   have d3:=hB2.cell (i:=3) rfl
   have d4:=hB2.cell (i:=4) rfl
   have d5:=hB2.cell (i:=5) rfl
   have d6:=hB2.cell (i:=6) rfl
   have d7:=hB2.cell (i:=7) rfl
   have hf:=hB2.frozen
   go_wp2
   have hfin:=(((((((hB2.setCell_same 0 (.int .u32 (((s.a:Int)+(r.a:Int))%4294967296))).setCell_same 1 (.int .u32 (((s.b:Int)+(r.b:Int))%4294967296))).setCell_same 2 (.int .u32 (((s.c:Int)+(r.c:Int))%4294967296))).setCell_same 3 (.int .u32 (((s.d:Int)+(r.d:Int))%4294967296))).setCell_same 4 (.int .u32 (((s.e:Int)+(r.e:Int))%4294967296))).setCell_same 5 (.int .u32 (((s.f:Int)+(r.f:Int))%4294967296))).setCell_same 6 (.int .u32 (((s.g:Int)+(r.g:Int))%4294967296))).setCell_same 7 (.int .u32 (((s.h:Int)+(r.h:Int))%4294967296))
   refine ret_row Tryz.results162 (w.heap.size+1+1) 0 rfl _ (.array 8 130) hfin.rangeAll Tryz.underlying131 rfl (by kernel_rfl) rfl ⟨?_,?_⟩
   ·rw[HR.out]
    exact congrArg (fun x=>Ending.returned (.agg x)) (add8 s r)
   ·exact (((((((hbe.setCell (by simp;omega) _).setCell (by simp;omega) _).setCell (by simp;omega) _).setCell (by simp;omega) _).setCell (by simp;omega) _).setCell (by simp;omega) _).setCell (by simp;omega) _).setCell (by simp;omega) _
def hcells (s:Sha.St) (blk:List UInt8) (n:Nat):List Value:=u32V s.list++u8V blk++[.int .u64 (n:Nat)]
theorem hcells_len (s:Sha.St) (blk:List UInt8) (n:Nat) (h:blk.length=64):(hcells s blk n).length=73:=by
 simp[hcells,u32V,u8V,Sha.St.list,h]
theorem hcells_count (s:Sha.St) (blk:List UInt8) (n:Nat) (h:blk.length=64) (pre post:List Value):
  (pre++hcells s blk n++post)[pre.length+72]? = some (.int .u64 (n:Nat)):=by
 rw[List.append_assoc,List.getElem?_append_right (by omega),List.getElem?_append_left (by rw[hcells_len _ _ _ h];omega)]
 unfold hcells
 rw[List.getElem?_append_right (by simp[u32V,u8V,Sha.St.list,h])]
 simp[u32V,u8V,Sha.St.list,h]
theorem hcells_byte (s:Sha.St) (blk:List UInt8) (n:Nat) (h:blk.length=64) (pre post:List Value) (j:Nat) (hj:j<64):
  (pre++hcells s blk n++post)[pre.length+8+j]? = some (.int .u8 (Sha.by8 blk j:Nat)):=by
 rw[List.append_assoc,List.getElem?_append_right (by omega),List.getElem?_append_left (by rw[hcells_len _ _ _ h];omega)]
 unfold hcells
 rw[List.append_assoc,List.getElem?_append_right (by simp[u32V,Sha.St.list];omega),List.getElem?_append_left (by simp[u8V,u32V,Sha.St.list,h];omega)]
 rw[←u8V_at blk j (by omega)]
 congr 1
 simp[u32V,Sha.St.list]
 omega
theorem st8_list (s:Sha.St):u32V s.list=(st8 s).toList:=rfl
theorem info64:(Tryz.prog.info? 132).map (·.size)=some 64:=by kernel_rfl
theorem hcells_set_count (s:Sha.St) (blk:List UInt8) (n m:Nat) (h:blk.length=64) (pre post:List Value):
  (pre++hcells s blk n++post).set (pre.length+72) (.int .u64 (m:Nat))=pre++hcells s blk m++post:=by
 rw[List.append_assoc,List.set_append_right _ _ (by omega),List.set_append_left _ _ (by rw[hcells_len _ _ _ h];omega)]
 unfold hcells
 rw[List.set_append_right _ _ (by simp[u32V,u8V,Sha.St.list,h])]
 simp[u32V,u8V,Sha.St.list,h]
theorem hcells_set_byte (s:Sha.St) (blk:List UInt8) (n:Nat) (x:UInt8) (h:blk.length=64) (pre post:List Value) (j:Nat) (hj:j<64):
  (pre++hcells s blk n++post).set (pre.length+8+j) (.int .u8 (x.toNat:Nat))=pre++hcells s (blk.set j x) n++post:=by
 rw[List.append_assoc,List.set_append_right _ _ (by omega),List.set_append_left _ _ (by rw[hcells_len _ _ _ h];omega)]
 unfold hcells
 rw[List.append_assoc,List.set_append_right _ _ (by simp[u32V,Sha.St.list];omega),List.set_append_left _ _ (by simp[u8V,u32V,Sha.St.list,h];omega)]
 rw[show pre.length+8+j-pre.length-(u32V s.list).length=j by simp[u32V,Sha.St.list];omega]
 simp[u8V]
theorem hcells_words (s s':Sha.St) (blk:List UInt8) (n:Nat) (pre post:List Value):
  laidOver (pre++hcells s blk n++post) pre.length (u32V s'.list)=pre++hcells s' blk n++post:=by
 unfold laidOver hcells
 have e:(pre++(u32V s.list++u8V blk++[Value.int .u64 (n:Nat)])++post).drop (pre.length+(u32V s'.list).length)=u8V blk++[Value.int .u64 (n:Nat)]++post:=by
  have h8:(u32V s'.list).length=(u32V s.list).length:=by simp[u32V,Sha.St.list]
  rw[h8,←List.length_append]
  rw[show pre++(u32V s.list++u8V blk++[Value.int .u64 (n:Nat)])++post=(pre++u32V s.list)++(u8V blk++[Value.int .u64 (n:Nat)]++post) by simp]
  rw[List.drop_left]
 rw[e]
 simp
theorem hcells_at_words (s:Sha.St) (blk:List UInt8) (n:Nat) (pre post:List Value):((pre++hcells s blk n++post).drop pre.length).take 8=u32V s.list:=by
 rw[List.append_assoc,List.drop_left]
 unfold hcells
 rw[show u32V s.list++u8V blk++[Value.int .u64 (n:Nat)]++post=u32V s.list++(u8V blk++[Value.int .u64 (n:Nat)]++post) by simp]
 exact List.take_left' rfl
theorem hcells_at_block (s:Sha.St) (blk:List UInt8) (n:Nat) (h:blk.length=64) (pre post:List Value):((pre++hcells s blk n++post).drop (pre.length+8)).take 64=u8V blk:=by
 unfold hcells
 rw[show pre++(u32V s.list++u8V blk++[Value.int .u64 (n:Nat)])++post=(pre++u32V s.list)++(u8V blk++([Value.int .u64 (n:Nat)]++post)) by simp]
 rw[List.drop_left' (by simp[u32V,Sha.St.list])]
 exact List.take_left' (by simp[u8V,h])
theorem take_stores (b o:Nat) (t:TypeId) (pre post:List Value) (s:Sha.St) (blk:List UInt8) (n j:Nat) (x:UInt8) (w:World)
  (ho:pre.length=o) (hl:blk.length=64) (hj:j<64) (hb:Blk w b t (pre++hcells s blk n++post)):
  Blk ((w.setCell ⟨b,o+8+j,none⟩ (.int .u8 (x.toNat:Nat))).setCell ⟨b,o+72,none⟩ (.int .u64 ((n:Int)+1))).drew b t (pre++hcells s (blk.set j x) (n+1)++post):=by
 have h:=((hb.setCell_same (o+8+j) (.int .u8 (x.toNat:Nat))).setCell_same (o+72) (.int .u64 ((n+1:Nat):Int))).drew
 rw[←ho,hcells_set_byte s blk n x hl pre post j hj,hcells_set_count s _ n (n+1) (by simp[hl]) pre post] at h
 rw[←ho]
 exact h
set_option maxHeartbeats 400000 in
theorem takeByte_stay (b o:Nat) (t:TypeId) (pre post:List Value) (s:Sha.St) (blk:List UInt8) (n:Nat) (x:UInt8) (w:World)
  (ho:pre.length=o) (hl:blk.length=64) (hn:n<2 ^ 62) (hb:Blk w b t (pre++hcells s blk n++post)) (hne:(n+1)%64≠0):
  Calls Tryz.prog 95 #[.pointer (some ⟨b,o,none⟩),.int .u8 (x.toNat:Nat)] w fun e w'=>e = .returned (.tuple #[]) ∧
   Blk w' b t (pre++hcells s (blk.set (n%64) x) (n+1)++post)∧w.grownBy w' (some b):=by
 have c0:=hb.cell (hcells_count s blk n hl pre post)
 have c1:=hb.cell (hcells_byte s blk n hl pre post (n%64) (by omega))
 rw[ho] at c0 c1
 have hf:=hb.frozen
 have hj:n%64<64:=by omega
 obtain ⟨j,hjj⟩:∃ j,j=n%64:=⟨_,rfl⟩
 rw[←hjj] at c1 hj
 have r0:(n:Int).tmod 64=(j:Int):=by rw[Int.tmod_eq_emod_of_nonneg (by omega)];omega
 have r1:(n:Int)%64=(j:Int):=by omega
 have r2:IntKind.u64.wrap (j:Int)=(j:Int):=IntWalk.u64_in _ (by omega)
 have r3:(j:Int)<64:=by omega
 have r4:(((n:Int)+1)%64==0)=false:=beq_eq_false_iff_ne.2 (by omega)
 have HJ:=hide hjj
 clear hjj hne
 go_enter Tryz.func95,Tryz.ntmps95
 go_wp2
 go_region_held3 (fun w'=>w'.cell? ⟨b,o+72,none⟩=some (.int .u64 (n:Nat))) (first | assumption | (rw[cell_off _ _ _ _ _ (by omega)];assumption)) (fail)
 go_wp2
 go_end0
 refine ⟨rfl,?_,(((World.grownBy.refl w _).setCell _ _).setCell _ _).drew⟩
 rw[←HJ.out]
 exact take_stores b o t pre post s blk n j x w ho hl hj hb
set_option maxRecDepth 100000 in
set_option maxHeartbeats 2000000 in
theorem takeByte_full (b o:Nat) (t:TypeId) (pre post:List Value) (s:Sha.St) (blk:List UInt8) (n:Nat) (x:UInt8) (w:World)
  (ho:pre.length=o) (hl:blk.length=64) (hn:n<2 ^ 62) (hb:Blk w b t (pre++hcells s blk n++post)) (hne:(n+1)%64=0) (hs:s.ok) (hk:KTab w) (h2:2≤b):
  Calls Tryz.prog 95 #[.pointer (some ⟨b,o,none⟩),.int .u8 (x.toNat:Nat)] w fun e w'=>e = .returned (.tuple #[]) ∧
   Blk w' b t (pre++hcells (Sha.comp s (blk.set (n%64) x)) (blk.set (n%64) x) (n+1)++post)∧w.grownBy w' (some b):=by
 have c0:=hb.cell (hcells_count s blk n hl pre post)
 have c1:=hb.cell (hcells_byte s blk n hl pre post (n%64) (by omega))
 rw[ho] at c0 c1
 have hf:=hb.frozen
 have hj:n%64<64:=by omega
 obtain ⟨j,hjj⟩:∃ j,j=n%64:=⟨_,rfl⟩
 rw[←hjj] at c1 hj
 have r0:(n:Int).tmod 64=(j:Int):=by rw[Int.tmod_eq_emod_of_nonneg (by omega)];omega
 have r1:(n:Int)%64=(j:Int):=by omega
 have r2:IntKind.u64.wrap (j:Int)=(j:Int):=IntWalk.u64_in _ (by omega)
 have r3:(j:Int)<64:=by omega
 have r4:(((n:Int)+1)%64==0)=true:=beq_iff_eq.2 (by omega)
 have hB1:=take_stores b o t pre post s blk n j x w ho hl hj hb
 have hG:=(((World.grownBy.refl w (some b)).setCell (o+8+j) (.int .u8 (x.toNat:Nat))).setCell (o+72) (.int .u64 ((n:Int)+1))).drew
 rw[←hjj]
 clear hjj hne
 have hlb:(blk.set j x).length=64:=by simp[hl]
 generalize blk.set j x=blk' at *
 have hrb:=hB1.range (o+8) 64
 rw[←ho,hcells_at_block s blk' (n+1) hlb pre post,ho] at hrb
 have hsz:(Tryz.prog.info? 132).map (·.size)=some (u8V blk').length:=by rw[info64];simp[u8V,hlb]
 have HSZ:=hide hsz
 clear hsz
 have HRB:=hide hrb
 have HLB:=hide hlb
 have HB1:=hide hB1
 have HG:=hide hG
 clear hrb hlb hB1 hG
 go_enter Tryz.func95,Tryz.ntmps95
 go_wp2
 go_region_held3 (fun w'=>w'.cell? ⟨b,o+72,none⟩=some (.int .u64 (n:Nat))) (first | assumption | (rw[cell_off _ _ _ _ _ (by omega)];assumption)) (fail)
 go_wp2_with (first | (refine wpList_load_mid rfl 132 (.tmp 30) rfl b (o+8) rfl (u8V blk') (.array 64 5) HRB.out Tryz.underlying132 rfl HSZ.out ?_))
 refine (spread_any blk' _ HLB.out).mono ?_
 rintro e w2 ⟨rfl,hbe2⟩
 have hB2:=HB1.out.below hbe2 HB1.out.lt
 have hG2:=HG.out.trans (hbe2.grownBy _)
 have hk2:KTab w2:=hk.grown hG2 h2 (by have:=hb.lt;omega)
 have hlb:=HLB.out
 clear HB1 HG HRB HSZ hbe2 c0 c1 hf r0 r1 r2 r3 r4 HLB hk hb hj
 have hz:(u32V (zeros32 64)).length=64:=by simp[u32V,zeros32]
 have hws:(Sha.sched blk' 64).length=64:=Sha.sched_len _ _
 have hcomp:Sha.comp s blk'=Sha.addSt s (Sha.rnds (Sha.sched blk' 64) s 64):=rfl
 generalize Sha.sched blk' 64=ws at *
 have HC:=hide hcomp
 clear hcomp
 have hwz:(u32V ws).toArray.size=64:=by simp[u32V,hws]
 have HWS:=hide hws
 have HWZ:=hide hwz
 have HZ:=hide hz
 have hsz:(Tryz.prog.info? 214).map (·.size)=some (u32V ws).toArray.size:=by rw[hwz];kernel_rfl
 have HSZ:=hide hsz
 have hsl:(Tryz.prog.info? 214).map (·.size)=some (u32V ws).length:=by rw[hsz];simp
 have HSL:=hide hsl
 clear hsl
 have hle:0+(u32V ws).toArray.size≤(u32V (zeros32 64)).length:=by omega
 have HLE:=hide hle
 clear hws hwz hz hsz hle
 go_wp2_with (first | (refine wpList_store_blk rfl 214 (.tmp 4) (.tmp 32) rfl w2.heap.size 0 (u32V ws).toArray rfl rfl HSZ.out (all_oneCell_toArray (u32V_one _)) 214 (u32V (zeros32 64)) ?_ ?_ ?_;exact Blk.new rfl rfl;exact HLE.out;intro w3 hB4 hG3))
 have hb2:=hB2.lt
 have hB3:=(hB2.alloc (.cells (u32V (zeros32 64)).toArray 214)).grown hG3 (by simp;omega)
 have hG4:=hG2.new hG3
 rw[laidOver_all _ _ (by simpa using HZ.out.trans HWZ.out.symm)] at hB4
 have hk3:KTab w3:=hk2.grown (b:=w2.heap.size) ((World.grownBy_alloc w2 _ _).trans hG3) (by omega) (by omega)
 have hr1:=hB3.range o 8
 rw[←ho,hcells_at_words,ho] at hr1
 have hr2:w3.rangeAt w2.heap.size 0 (u32V ws):=by simpa using hB4.rangeAll
 have HR1:=hide hr1
 have HR2:=hide hr2
 clear hr2
 have hs3:2≤w3.drew.heap.size:=by have:=hB3.lt;show 2≤w3.heap.size;omega
 have HB3:=hide hB3
 have HG4:=hide hG4
 have HS3:=hide hs3
 clear hB2 hG2 hk2 hB4 hG3 hb2 hB3 hG4 hr1 hs3
 refine wp_letter2 0 4 (fun A h0 h4 hz hd=>?_)
 have a0:A.eval (.tmp 0) = .pointer (some ⟨b,o,none⟩):=h0
 have a4:A.eval (.tmp 4) = .pointer (some ⟨w2.heap.size,0,none⟩):=h4
 have az:A.tmps.size=42:=hz
 have ad:A.defers=[]:=hd
 clear h0 h4 hz hd
 refine wp_region_any (by kernel_rfl) ?_
 change wpAny _ _ _ _ _ _ _ (World.drew _)
 refine wpAny_take (i:=0) (v:=.pointer (some ⟨b,o,none⟩)) rfl (by kernel_rfl) (by kernel_rfl) (by kernel_rfl) (fun _ _ _ h=>h) (Or.inl ⟨by rfl,fun w=>?_⟩) ?_
 ·rw[run_move (.tmp 0) rfl,a0]
 change wpAny _ _ _ _ _ _ (Act.put _ (some 33) _) _
 have b0:(A.put (some 33) (.pointer (some ⟨b,o,none⟩))).eval (.tmp 0) = .pointer (some ⟨b,o,none⟩):=(Act.eval_other _ _ _ _ (by decide)).trans a0
 have b4:(A.put (some 33) (.pointer (some ⟨b,o,none⟩))).eval (.tmp 4) = .pointer (some ⟨w2.heap.size,0,none⟩):=(Act.eval_other _ _ _ _ (by decide)).trans a4
 have b33:(A.put (some 33) (.pointer (some ⟨b,o,none⟩))).eval (.tmp 33) = .pointer (some ⟨b,o,none⟩):=Act.eval_same _ _ _ (by rw[az];decide)
 have bz:(A.put (some 33) (.pointer (some ⟨b,o,none⟩))).tmps.size=42:=(Act.put_size _ _ _).trans az
 have bd:(A.put (some 33) (.pointer (some ⟨b,o,none⟩))).defers=[]:=(Act.put_defers' _ _ _).trans ad
 generalize A.put (some 33) (.pointer (some ⟨b,o,none⟩))=B at *
 clear a0 a4 az ad A
 refine wpAny_take (i:=1) (v:=.pointer (some ⟨b,o,none⟩)) rfl (by kernel_rfl) (by kernel_rfl) (by kernel_rfl) (fun _ _ _ h=>h) (Or.inl ⟨by rfl,fun w=>?_⟩) ?_
 ·rw[run_move (.tmp 0) rfl,b0]
 change wpAny _ _ _ _ _ _ (Act.put _ (some 34) _) _
 refine wpAny_take (i:=2) (v:=.pointer (some ⟨b,o,none⟩)) rfl (by kernel_rfl) (by kernel_rfl) (by kernel_rfl) (fun _ _ _ h=>h) (Or.inl ⟨by rfl,fun w=>?_⟩) ?_
 ·exact run_nilCheck (.tmp 34) _ rfl (Act.eval_same _ _ _ (by rw[bz];decide))
 change wpAny _ _ _ _ _ _ (Act.put _ (some 35) _) _
 refine wpAny_take (i:=3) (v:=.pointer (some ⟨b,o,none⟩)) rfl (by kernel_rfl) (by kernel_rfl) (by kernel_rfl) (fun _ _ _ h=>h) (Or.inl ⟨by rfl,fun w=>?_⟩) ?_
 ·unfold execOp;rw[show (Oper.op _)=Op.fieldAddr 135 (.tmp 35) 0 from rfl];simp only[Act.eval_same _ 35 _ (show 35<(Act.put B (some 34) (.pointer (some ⟨b,o,none⟩))).tmps.size by rw[Act.put_size,bz];decide)];go_simp
 change wpAny _ _ _ _ _ _ (Act.put _ (some 36) _) _
 have c36:(((B.put (some 34) (.pointer (some ⟨b,o,none⟩))).put (some 35) (.pointer (some ⟨b,o,none⟩))).put (some 36) (.pointer (some ⟨b,o,none⟩))).eval (.tmp 36) = .pointer (some ⟨b,o,none⟩):=Act.eval_same _ _ _ (by rw[Act.put_size,Act.put_size,bz];decide)
 have c33:(((B.put (some 34) (.pointer (some ⟨b,o,none⟩))).put (some 35) (.pointer (some ⟨b,o,none⟩))).put (some 36) (.pointer (some ⟨b,o,none⟩))).eval (.tmp 33) = .pointer (some ⟨b,o,none⟩):=by rw[Act.eval_other _ _ _ _ (by decide),Act.eval_other _ _ _ _ (by decide),Act.eval_other _ _ _ _ (by decide),b33]
 have c4:(((B.put (some 34) (.pointer (some ⟨b,o,none⟩))).put (some 35) (.pointer (some ⟨b,o,none⟩))).put (some 36) (.pointer (some ⟨b,o,none⟩))).eval (.tmp 4) = .pointer (some ⟨w2.heap.size,0,none⟩):=by rw[Act.eval_other _ _ _ _ (by decide),Act.eval_other _ _ _ _ (by decide),Act.eval_other _ _ _ _ (by decide),b4]
 have cz:(((B.put (some 34) (.pointer (some ⟨b,o,none⟩))).put (some 35) (.pointer (some ⟨b,o,none⟩))).put (some 36) (.pointer (some ⟨b,o,none⟩))).tmps.size=42:=by rw[Act.put_size,Act.put_size,Act.put_size,bz]
 have cd:(((B.put (some 34) (.pointer (some ⟨b,o,none⟩))).put (some 35) (.pointer (some ⟨b,o,none⟩))).put (some 36) (.pointer (some ⟨b,o,none⟩))).defers=[]:=by rw[Act.put_defers',Act.put_defers',Act.put_defers',bd]
 generalize ((B.put (some 34) (.pointer (some ⟨b,o,none⟩))).put (some 35) (.pointer (some ⟨b,o,none⟩))).put (some 36) (.pointer (some ⟨b,o,none⟩))=C at *
 clear b0 b4 b33 bz bd B
 refine wpAny_ready (rs:=[4,5]) (by kernel_rfl) (by simp) ?_
 refine AllReady.cons rfl (fun K hK=>?_) (AllReady.cons rfl (fun K hK=>?_) AllReady.nil)
 ·refine step_load_mid rfl 131 (.tmp 36) rfl b o c36 (u32V s.list) (.array 8 130) HR1.out Tryz.underlying131 rfl (by kernel_rfl) ?_
  refine hK _ _ ?_
  clear hK K
  change wpAny _ _ _ _ _ _ (Act.put _ (some 37) _) _
  refine wpAny_ready (rs:=[5]) (by kernel_rfl) (by simp) ?_
  refine AllReady.cons rfl (fun K hK=>?_) AllReady.nil
  refine step_load_mid rfl 214 (.tmp 4) rfl w2.heap.size 0 ((Act.eval_other _ _ _ _ (by decide)).trans c4) (u32V ws) (.array 64 130) HR2.out Tryz.underlying214 rfl HSL.out ?_
  refine hK _ _ ?_
  clear hK K
  change wpAny _ _ _ _ _ _ (Act.put _ (some 38) _) _
  generalize hD:(C.put (some 37) (.agg (u32V s.list).toArray)).put (some 38) (.agg (u32V ws).toArray)=D at *
  have e37:D.eval (.tmp 37) = .agg (u32V s.list).toArray:=by rw[←hD,Act.eval_other _ _ _ _ (by decide)];exact Act.eval_same _ _ _ (by rw[cz];decide)
  have e38:D.eval (.tmp 38) = .agg (u32V ws).toArray:=by rw[←hD];exact Act.eval_same _ _ _ (by rw[Act.put_size,cz];decide)
  have e33:D.eval (.tmp 33) = .pointer (some ⟨b,o,none⟩):=by rw[←hD,Act.eval_other _ _ _ _ (by decide),Act.eval_other _ _ _ _ (by decide),c33]
  have ez:D.tmps.size=42:=by rw[←hD,Act.put_size,Act.put_size,cz]
  have ed:D.defers=[]:=by rw[←hD,Act.put_defers',Act.put_defers',cd]
  clear hD c36 c33 c4 cz cd C
  have g37:D.tmps[37]?.getD undef = .agg (u32V s.list).toArray:=by simpa [Act.eval] using e37
  have g38:D.tmps[38]?.getD undef = .agg (u32V ws).toArray:=by simpa [Act.eval] using e38
  have EZ:=hide ez
  have ED:=hide ed
  clear ez ed
  refine wpAny_ready (rs:=[6]) (by kernel_rfl) (by simp) ?_
  refine AllReady.cons rfl (fun K hK=>?_) AllReady.nil
  go_simp
  refine (mix_any s ws w3.drew hs HWS.out hk3 HS3.out).mono ?_
  rintro e w4 ⟨rfl,hbe4⟩
  refine hK _ _ ?_
  clear hK K
  change wpAny _ _ _ _ _ _ (Act.put D (some 39) _) _
  have hB4:=HB3.out.drew.below hbe4 HB3.out.lt
  have hG5:=HG4.out.drew.trans (hbe4.grownBy _)
  refine wpAny_take (i:=7) (v:=.pointer (some ⟨b,o,none⟩)) rfl (by kernel_rfl) (by kernel_rfl) (by kernel_rfl) (fun _ _ _ h=>h) (Or.inl ⟨by rfl,fun w=>?_⟩) ?_
  ·exact run_nilCheck (.tmp 33) _ rfl ((Act.eval_other _ _ _ _ (by decide)).trans e33)
  change wpAny _ _ _ _ _ _ (Act.put _ (some 40) _) _
  refine wpAny_take (i:=8) (v:=.pointer (some ⟨b,o,none⟩)) rfl (by kernel_rfl) (by kernel_rfl) (by kernel_rfl) (fun _ _ _ h=>h) (Or.inl ⟨by rfl,fun w=>?_⟩) ?_
  ·unfold execOp;rw[show (Oper.op _)=Op.fieldAddr 135 (.tmp 40) 0 from rfl];simp only[Act.eval_same _ 40 _ (show 40<(Act.put D (some 39) (.agg (st8 (Sha.addSt s (Sha.rnds ws s 64))))).tmps.size by rw[Act.put_size,EZ.out];decide)];go_simp
  change wpAny _ _ _ _ _ _ (Act.put _ (some 41) _) _
  refine wpAny_ready (rs:=[9]) (by kernel_rfl) (by simp) ?_
  refine AllReady.cons rfl (fun K hK=>?_) AllReady.nil
  refine step_store_blk rfl 131 (.tmp 41) (.tmp 39) rfl b o (st8 (Sha.addSt s (Sha.rnds ws s 64))) (Act.eval_same _ _ _ (by rw[Act.put_size,Act.put_size,EZ.out];decide)) (by rw[Act.eval_other _ _ _ _ (by decide),Act.eval_other _ _ _ _ (by decide)];exact Act.eval_same _ _ _ (by rw[EZ.out];decide)) (by kernel_rfl) (all_oneCell_toArray (u32V_one (Sha.addSt s (Sha.rnds ws s 64)).list)) t _ hB4 ?_ ?_
  ·rw[List.length_append,List.length_append,hcells_len _ _ _ hlb,ho];show o+8≤_;omega
  intro w5 hB5 hG6
  refine hK _ _ ?_
  clear hK K
  refine wpAny_done (by kernel_rfl) ?_ _
  refine bodyPost_end (v:=.tuple #[]) (by simp[results,Tryz.results95]) (by show (Act.put _ _ _).defers=[];rw[Act.put_defers',Act.put_defers',Act.put_defers',Act.put_defers',ED.out]) ⟨rfl,?_,hG5.trans hG6⟩
  have e:=hcells_words s (Sha.addSt s (Sha.rnds ws s 64)) blk' (n+1) pre post
  rw[ho,st8_list] at e
  rw[e] at hB5
  rw[HC.out]
  exact hB5
 ·refine step_load_mid rfl 214 (.tmp 4) rfl w2.heap.size 0 c4 (u32V ws) (.array 64 130) HR2.out Tryz.underlying214 rfl HSL.out ?_
  refine hK _ _ ?_
  clear hK K
  change wpAny _ _ _ _ _ _ (Act.put _ (some 38) _) _
  refine wpAny_ready (rs:=[4]) (by kernel_rfl) (by simp) ?_
  refine AllReady.cons rfl (fun K hK=>?_) AllReady.nil
  refine step_load_mid rfl 131 (.tmp 36) rfl b o ((Act.eval_other _ _ _ _ (by decide)).trans c36) (u32V s.list) (.array 8 130) HR1.out Tryz.underlying131 rfl (by kernel_rfl) ?_
  refine hK _ _ ?_
  clear hK K
  change wpAny _ _ _ _ _ _ (Act.put _ (some 37) _) _
  generalize hD:(C.put (some 38) (.agg (u32V ws).toArray)).put (some 37) (.agg (u32V s.list).toArray)=D at *
  have e37:D.eval (.tmp 37) = .agg (u32V s.list).toArray:=by rw[←hD];exact Act.eval_same _ _ _ (by rw[Act.put_size,cz];decide)
  have e38:D.eval (.tmp 38) = .agg (u32V ws).toArray:=by rw[←hD,Act.eval_other _ _ _ _ (by decide)];exact Act.eval_same _ _ _ (by rw[cz];decide)
  have e33:D.eval (.tmp 33) = .pointer (some ⟨b,o,none⟩):=by rw[←hD,Act.eval_other _ _ _ _ (by decide),Act.eval_other _ _ _ _ (by decide),c33]
  have ez:D.tmps.size=42:=by rw[←hD,Act.put_size,Act.put_size,cz]
  have ed:D.defers=[]:=by rw[←hD,Act.put_defers',Act.put_defers',cd]
  clear hD c36 c33 c4 cz cd C
  have g37:D.tmps[37]?.getD undef = .agg (u32V s.list).toArray:=by simpa [Act.eval] using e37
  have g38:D.tmps[38]?.getD undef = .agg (u32V ws).toArray:=by simpa [Act.eval] using e38
  have EZ:=hide ez
  have ED:=hide ed
  clear ez ed
  refine wpAny_ready (rs:=[6]) (by kernel_rfl) (by simp) ?_
  refine AllReady.cons rfl (fun K hK=>?_) AllReady.nil
  go_simp
  refine (mix_any s ws w3.drew hs HWS.out hk3 HS3.out).mono ?_
  rintro e w4 ⟨rfl,hbe4⟩
  refine hK _ _ ?_
  clear hK K
  change wpAny _ _ _ _ _ _ (Act.put D (some 39) _) _
  have hB4:=HB3.out.drew.below hbe4 HB3.out.lt
  have hG5:=HG4.out.drew.trans (hbe4.grownBy _)
  refine wpAny_take (i:=7) (v:=.pointer (some ⟨b,o,none⟩)) rfl (by kernel_rfl) (by kernel_rfl) (by kernel_rfl) (fun _ _ _ h=>h) (Or.inl ⟨by rfl,fun w=>?_⟩) ?_
  ·exact run_nilCheck (.tmp 33) _ rfl ((Act.eval_other _ _ _ _ (by decide)).trans e33)
  change wpAny _ _ _ _ _ _ (Act.put _ (some 40) _) _
  refine wpAny_take (i:=8) (v:=.pointer (some ⟨b,o,none⟩)) rfl (by kernel_rfl) (by kernel_rfl) (by kernel_rfl) (fun _ _ _ h=>h) (Or.inl ⟨by rfl,fun w=>?_⟩) ?_
  ·unfold execOp;rw[show (Oper.op _)=Op.fieldAddr 135 (.tmp 40) 0 from rfl];simp only[Act.eval_same _ 40 _ (show 40<(Act.put D (some 39) (.agg (st8 (Sha.addSt s (Sha.rnds ws s 64))))).tmps.size by rw[Act.put_size,EZ.out];decide)];go_simp
  change wpAny _ _ _ _ _ _ (Act.put _ (some 41) _) _
  refine wpAny_ready (rs:=[9]) (by kernel_rfl) (by simp) ?_
  refine AllReady.cons rfl (fun K hK=>?_) AllReady.nil
  refine step_store_blk rfl 131 (.tmp 41) (.tmp 39) rfl b o (st8 (Sha.addSt s (Sha.rnds ws s 64))) (Act.eval_same _ _ _ (by rw[Act.put_size,Act.put_size,EZ.out];decide)) (by rw[Act.eval_other _ _ _ _ (by decide),Act.eval_other _ _ _ _ (by decide)];exact Act.eval_same _ _ _ (by rw[EZ.out];decide)) (by kernel_rfl) (all_oneCell_toArray (u32V_one (Sha.addSt s (Sha.rnds ws s 64)).list)) t _ hB4 ?_ ?_
  ·rw[List.length_append,List.length_append,hcells_len _ _ _ hlb,ho];show o+8≤_;omega
  intro w5 hB5 hG6
  refine hK _ _ ?_
  clear hK K
  refine wpAny_done (by kernel_rfl) ?_ _
  refine bodyPost_end (v:=.tuple #[]) (by simp[results,Tryz.results95]) (by show (Act.put _ _ _).defers=[];rw[Act.put_defers',Act.put_defers',Act.put_defers',Act.put_defers',ED.out]) ⟨rfl,?_,hG5.trans hG6⟩
  have e:=hcells_words s (Sha.addSt s (Sha.rnds ws s 64)) blk' (n+1) pre post
  rw[ho,st8_list] at e
  rw[e] at hB5
  rw[HC.out]
  exact hB5
end Go.Proofs.YtmjekklgefdolaaGreatDoor
