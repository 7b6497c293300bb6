/- A law's call of both stores (act), as a contract: it is answered as the document says. -/
import Derived.Test.YtlclabbnpjobgaaGreatDoorAp43
import Derived.Test.YtlclabbnpjobgaaGreatDoorAp46
namespace Go.Proofs.YtlclabbnpjobgaaGreatDoor
variable {K al bs zs:Lq}
variable {S fr:List Nat}
variable {W w w' w0 w1 w3:World}
variable {b base fuel g gc gs nb q room:Nat}
variable {cs:Lz}
variable {root:Int}
variable {v va:Value}
set_option maxHeartbeats 8000000
set_option maxRecDepth 20000
open Go.RowKit
section
variable {w0 w w1 w2:World} {S:List Nat} {g gs q room:Nat} {cs:Lz} {fr:List Nat}
theorem P7.rebase (h:P7 w S w g gs q room cs fr) (hb:Kb w w1):P7 w1 S w1 g gs q room cs fr:=by
 obtain ⟨ss,⟨vp,vf,vp2,vf2,s,d,ap,m,n1,n2⟩,R,W⟩:=h;refine ⟨ss,⟨vp,vf,vp2,vf2,s.grow hb,d.grow hb,ap,Mod.refl _ _,fun k hk=>?_,fun k hk=>?_⟩,R,W⟩
 ·rcases n1 k hk with e | e
  ·exact .inl e
  ·have:=s.lts k hk;omega
 ·rcases n2 k hk with e | e
  ·exact .inl e
  ·have:=d.lts k hk;omega
theorem P7.back (hb:Kb w w1) (h:P7 w1 S w2 g gs q room cs fr):P7 w S w2 g gs q room cs fr:=by
 obtain ⟨ss,⟨vp,vf,vp2,vf2,s,d,ap,m,n1,n2⟩,R,W⟩:=h;refine ⟨ss,⟨vp,vf,vp2,vf2,s,d,ap,(Mod.of_below hb S).trans' m,fun k hk=>?_,fun k hk=>?_⟩,R,W⟩
 ·rcases n1 k hk with e | e
  ·exact .inl e
  ·exact .inr (Nat.le_trans hb.size e)
 ·rcases n2 k hk with e | e
  ·exact .inl e
  ·exact .inr (Nat.le_trans hb.size e)
theorem P7.over (hb:Kb w w1) (h:P7 w1 S w2 g gs q room cs fr) (h1:w.heap.size≤b) (h2:b<w1.heap.size) (h3:b ∉ S) (hg:w2.grownBy w3 (some b)):P7 w S w3 g gs q room cs fr:=by
 have m3:Mod [b] w2 w3:=Mod.of_some hg (by simp);have hb':=P7.back hb h;obtain ⟨ss,⟨vp,vf,vp2,vf2,s,d,ap,m,n1,n2⟩,R,W⟩:=h;have a1:∀k∈stB g gs vp vf cs,k ∉ [b]:=fun k hk e=>by
  obtain rfl:k=b:=by simpa using e
  rcases n1 k hk with e | e
  ·exact h3 e
  ·omega
 have a2:∀k∈rsB q vp2 vf2 ss,k ∉ [b]:=fun k hk e=>by
  obtain rfl:k=b:=by simpa using e
  rcases n2 k hk with e | e
  ·exact h3 e
  ·omega
 refine ⟨ss,⟨vp,vf,vp2,vf2,s.mod m3 a1,d.mod m3 a2,ap,hb'.mod.trans (fun k hk=>.inr ?_) m3,fun k hk=>?_,fun k hk=>?_⟩,R,W⟩
 ·obtain rfl:k=b:=by simpa using hk
  exact h1
 ·rcases n1 k hk with e | e
  ·exact .inl e
  ·exact .inr (Nat.le_trans hb.size e)
 ·rcases n2 k hk with e | e
  ·exact .inl e
  ·exact .inr (Nat.le_trans hb.size e)
end
theorem Kq.row (h:Row w b zs) (hn:b ∉ S):Kq S w (fun w'=>Row w' b zs):=fun _ m=>h.of_block (m.block b h.lt hn)
def ActPost7 (w0:World) (S:List Nat) (g gs q room:Nat) (e:Ending) (w':World):Prop:=e=.returned (.bool true)∧∃cs fr,P7 w0 S w' g gs q room cs fr
theorem Zvl (h:Row w b (zs++marks zs.length)) (hb:Bytes zs) (hl:zs.length≤2000):Own 0 w (.slice (some ⟨b,0,none⟩) zs.length (zs.length+5)) zs (marks zs.length):=by
 have h1:=Own.mk (base:=0) hb (Zia zs.length) (by rw [Zbh];simp only [maxLen];omega) (Nat.zero_le _) h;rw [Zbh] at h1;exact h1
def Lent7 (w:World) (S:List Nat) (g gs q room:Nat) (cs:Lz) (fr:List Nat) (bs:Lq) (b:Nat) (w2:World):Prop:=Kb w w2∧w.heap.size≤b∧b<w2.heap.size∧b ∉ S∧Kq S w2 (fun w'=>Own 0 w' (.slice (some ⟨b,0,none⟩) bs.length (bs.length+5)) bs (marks bs.length))∧Kq S w2 (fun w'=>Row w' b (bs++marks bs.length))∧P7 w2 S w2 g gs q room cs fr
theorem Yja (HS:∀b,w.heap.size≤b→b ∉ S) (h:P7 w S w g gs q room cs fr) (hb:Kb w w1) (hr:Kq S w fun w'=>Reads w' v bs) (hl:bs.length≤2000):Kc 84 #[v] w1 fun e w2=>∃b,e=.returned (.slice (some ⟨b,0,none⟩) bs.length (bs.length+5))∧Lent7 w S g gs q room cs fr bs b w2∧Kb w1 w2:=by
 have hr1:=(hr.grow hb).now;have hby:Bytes bs:=by obtain ⟨_,_,_,_,_,hb,_⟩:=hr1;exact hb
 refine (Zpn v bs w1 hr1 (by omega)).mono ?_;rintro e w2 ⟨rfl,r2,b2,s2⟩;have hn:=HS _ hb.size;have k:=Kq.row r2 hn;exact ⟨_,rfl,⟨Zb hb b2,hb.size,by omega,hn,k.imp fun w' _ r=>Zvl r hby hl,k,h.rebase (Zb hb b2)⟩,b2⟩
end Go.Proofs.YtlclabbnpjobgaaGreatDoor
namespace Go.Proofs.YtlclabbnpjobgaaGreatDoor
variable {K al bs zs:Lq}
variable {S fr:List Nat}
variable {W w w' w0 w1 w3:World}
variable {b base fuel g gc gs nb q room:Nat}
variable {cs:Lz}
variable {root:Int}
variable {v va:Value}
set_option maxHeartbeats 8000000
set_option maxRecDepth 20000
open Go.RowKit
def apL (k:Int) (K:Lq) (v:Value) (h:Int):List Value:=.int .i64 k::(K.map (Value.int .u8)++[v,.int .i64 h])
theorem Zbi (k:Int) (K:Lq) (v:Value) (h:Int) (hK:K.length=32):(apL k K v h).length=35:=by simp [apL,hK]
theorem Zok {k:Int} {h:Int} (hK:K.length=32):(apL k K v h)[33]?=some v∧(apL k K v h)[34]?=some (.int .i64 h):=by
 have e:apL k K v h=(.int .i64 k::K.map (Value.int .u8))++[v,.int .i64 h]:=rfl;have hl:(Value.int .i64 k::K.map (Value.int .u8)).length=33:=by simp [hK]
 rw [e];exact ⟨by rw [List.getElem?_append_right (by omega),hl];rfl,by rw [List.getElem?_append_right (by omega),hl];rfl⟩
theorem Zfa {t:TypeId} {k:Int} {h:Int} (hb:Blk w b t (apL k K v h).toArray):w.cell? ⟨b,0,none⟩=some (.int .i64 k):=by rw [hb.cell];rfl
theorem Zmr {t:TypeId} {k:Int} {h:Int} (hb:Blk w b t (apL k K v h).toArray) (hK:K.length=32):w.cell? ⟨b,33,none⟩=some v:=by rw [hb.cell];simpa using (Zok hK).1
theorem Zcn {t:TypeId} {k:Int} {h:Int} (hb:Blk w b t (apL k K v h).toArray) (hK:K.length=32):w.cell? ⟨b,34,none⟩=some (.int .i64 h):=by rw [hb.cell];simpa using (Zok hK).2
theorem Zhi {t:TypeId} {k:Int} {h:Int} (hb:Blk w b t (apL k K v h).toArray):w.rangeAt b 1 (K.map (Value.int .u8)):=fun j u hu=>by
 rw [hb.cell];have hj:j<(K.map (Value.int .u8)).length:=(List.getElem?_eq_some_iff.1 hu).1;show (apL k K v h).toArray[1+j]?=some u;rw [List.getElem?_toArray,show 1+j=j+1 by omega];show (K.map (Value.int .u8)++[v,.int .i64 h])[j]?=some u;rw [List.getElem?_append_left hj];exact hu
end Go.Proofs.YtlclabbnpjobgaaGreatDoor
namespace Go.Proofs.YtlclabbnpjobgaaGreatDoor
variable {K al bs zs:Lq}
variable {S fr:List Nat}
variable {W w w' w0 w1 w3:World}
variable {b base fuel g gc gs nb q room:Nat}
variable {cs:Lz}
variable {root:Int}
variable {v va:Value}
set_option maxHeartbeats 8000000
set_option maxRecDepth 20000
open Go.ChangeShapes Go.WideShapes Go.ChangeAt Go.RowKit
structure Ap where
 k:Int
 K:Lq
 v:Value
 bs:Lq
 h:Int
def apC (q:Ap):List Value:=apL q.k q.K q.v q.h
instance:Inhabited Ap:=⟨⟨0,z32,.slice none 0 0,[],0⟩⟩
theorem Zjm:Tryz.prog.cellsOf 73=35:=by kernel_rfl
theorem Zjk:Tryz.prog.cellsOf 3=1:=by kernel_rfl
theorem Zxe:Tryz.prog.cellsOf 52=1:=by kernel_rfl
theorem Zgq {H:Type} {P:Program} {e:TypeId} {d:DataW H} {n:Nat} (hn:n∈d.weights P e):∀l:List (DataW H),d∈l→n∈DataW.weightsAll P e l
 | [],h=>by simp at h
 | x::r,h=>by
  simp only [DataW.weightsAll,List.mem_append];rcases List.mem_cons.1 h with rfl | h
  ·exact .inl hn
  ·exact .inr (Zgq hn r h)
theorem Znr (cs:List Value) (i:Nat) (h:i<cs.length):∃u,(cs.drop i).take 1=[u]∧cs[i]?=some u:=by
 refine ⟨cs[i],?_,List.getElem?_eq_getElem h⟩;rw [List.drop_eq_getElem_cons h];rfl
theorem Zsu {H:Type} {enc:TypeId×Value→H} {cs:List Value} {z:DataW H×List MemPlace} (h:DataW.trod enc Tryz.prog W 0 (fun _=>true) true fuel 73 cs=some z) (hw:∀m∈z.1.weights Tryz.prog 73,m≤reachBytes):
  ∃q:Ap,cs=apC q∧Key q.K∧Reads W q.v q.bs∧q.bs.length≤140737488355328-4096:=by
 have hF:∃f0 f1 f2 f3:Field,Tryz.prog.underlying 73=some (.struct #[f0,f1,f2,f3])∧(f0.type=3∧f0.offset=0)∧(f1.type=48∧f1.offset=1)∧(f2.type=52∧f2.offset=33)∧(f3.type=3∧f3.offset=34):=⟨_,_,_,_,Tryz.underlying73,⟨rfl,rfl⟩,⟨rfl,rfl⟩,⟨rfl,rfl⟩,⟨rfl,rfl⟩⟩;obtain ⟨f0,f1,f2,f3,hu,⟨t0,o0⟩,⟨t1,o1⟩,⟨t2,o2⟩,⟨t3,o3⟩⟩:=hF;obtain ⟨xs,n,hk,hxy,hl,hxl,hf⟩:=DataW.trod_struct hu h;rw [Zjm] at hl
 match xs,hxl with
 | [y0,y1,y2,y3],_=>
  have g0:DataW.trod enc Tryz.prog W 0 (fun _=>true) true n f0.type ((cs.drop f0.offset).take (Tryz.prog.cellsOf f0.type))=some y0:=hf 0 f0 rfl;have g1:DataW.trod enc Tryz.prog W 0 (fun _=>true) true n f1.type ((cs.drop f1.offset).take (Tryz.prog.cellsOf f1.type))=some y1:=hf 1 f1 rfl;have g2:DataW.trod enc Tryz.prog W 0 (fun _=>true) true n f2.type ((cs.drop f2.offset).take (Tryz.prog.cellsOf f2.type))=some y2:=hf 2 f2 rfl;have g3:DataW.trod enc Tryz.prog W 0 (fun _=>true) true n f3.type ((cs.drop f3.offset).take (Tryz.prog.cellsOf f3.type))=some y3:=hf 3 f3 rfl;rw [t0,o0,Zjk] at g0;rw [t1,o1,Zjj] at g1;rw [t2,o2,Zxe] at g2;rw [t3,o3,Zjk] at g3;obtain ⟨u0,a0,b0⟩:=Znr cs 0 (by omega);obtain ⟨u2,a2,b2⟩:=Znr cs 33 (by omega);obtain ⟨u3,a3,b3⟩:=Znr cs 34 (by omega);rw [a0] at g0;rw [a2] at g2;rw [a3] at g3;obtain ⟨k0,e0,_,_⟩:=DataW.trod_int Tryz.underlying3 g0;obtain ⟨k3,e3,_,_⟩:=DataW.trod_int Tryz.underlying3 g3;obtain ⟨K,lk,ek,bk⟩:=Zyc Tryz.underlying48 Zjj g1;simp only [List.cons.injEq,and_true] at e0 e3;subst e0 e3;have hsz2:(DataW.weightsEach Tryz.prog [3,48,52,3] [y0.1,y1.1,y2.1,y3.1]).all (· ≤reachBytes)=true:=by
   rw [List.all_eq_true];intro m hm;rw [decide_eq_true_iff];refine hw m ?_;rw [hxy];simp only [DataW.weights,hu];rw [show (#[f0,f1,f2,f3]:Array Field).toList.map (·.type)=[3,48,52,3] by simp [t0,t1,t2,t3]];exact hm
  obtain ⟨zs,r1,l1⟩:=Zqu (d:=y2.1) (p:=y2.2) g2 hsz2 2 rfl rfl;refine ⟨⟨k0,K,u2,zs,k3⟩,?_,⟨lk,bk⟩,r1,l1⟩;have at_:∀i,(hi:i<cs.length)→cs.drop i=cs[i]::cs.drop (i+1):=fun i hi=>List.drop_eq_getElem_cons hi
  have g:∀i u,cs[i]?=some u→cs.drop i=u::cs.drop (i+1):=fun i u hu=>by
   obtain ⟨h1,h2⟩:=List.getElem?_eq_some_iff.1 hu;rw [at_ i h1,h2]
  have d0:=g 0 _ b0;have d2:=g 33 _ b2;have d3:=g 34 _ b3;have d6:cs.drop 35=[]:=List.drop_eq_nil_of_le (by omega);have d1:cs.drop 1=K.map (Value.int .u8)++cs.drop 33:=by
   have:=(List.take_append_drop 32 (cs.drop 1)).symm;rw [ek,List.drop_drop] at this;exact this
  show cs=apL k0 K u2 k3;rw [List.drop_zero] at d0;rw [d0,d1,d2,d3,d6];rfl
def ApAt (W:World) (v:Value) (qs:List Ap):Prop:=
 ∃a c,v=.slice a qs.length c∧(0<qs.length→∃b off,a=some ⟨b,off,none⟩∧∀i,i<qs.length→W.rangeAt b (off+i * 35) (apC (qs.getD i default)))∧∀i,i<qs.length→Key (qs.getD i default).K∧Reads W (qs.getD i default).v (qs.getD i default).bs∧(qs.getD i default).bs.length≤140737488355328-4096
theorem Zxs {H:Type} {enc:TypeId×Value→H} {d:DataW H} {p:List MemPlace} (hv:Value.okWide Tryz.prog W .any base 22 v)
  (h:DataW.Trod enc Tryz.prog W 0 (fun _=>true) true 22 v d p) {ts:List TypeId} {ds:List (DataW H)} (hsz:(DataW.weightsEach Tryz.prog ts ds).all (· ≤reachBytes)=true) (j:Nat) (ht:ts[j]?=some 22) (hd:ds[j]?=some d):
  ∃qs,ApAt W v qs:=by
 obtain ⟨a,len,cap,rfl⟩:=okWide_slice Tryz.underlying22 hv;obtain ⟨fuel,hf⟩:=h;rcases Go.Deep.open_slice Tryz.underlying22 hf with ⟨hcs,hx⟩ | ⟨x,l,c,m,n,D,Pl,hcs,_,hl,hm,hmm,hx,hcell⟩
 ·simp [Value.cells] at hcs;obtain ⟨rfl,rfl,rfl⟩:=hcs;exact ⟨[],none,0,rfl,fun h=>by simp at h,fun i hi=>by simp at hi⟩
 ·simp [Value.cells] at hcs;obtain ⟨rfl,rfl,rfl⟩:=hcs;simp at hmm;simp only [Prod.mk.injEq] at hx;have hwt:∀i,i<len→∀q∈(D i).weights Tryz.prog 73,q≤reachBytes:=by
   intro i hi q hq;have h1:=List.all_eq_true.1 hsz q (DataW.weights_mem_each ht hd q (by
    rw [hx.1];simp only [DataW.weights,Tryz.underlying22,List.mem_cons,List.mem_append];exact .inr (.inl (Zgq hq _ (List.mem_map.2 ⟨i,List.mem_range.2 hi,rfl⟩)))))
   simpa using h1
  have each:∀i,i<len→∃q:Ap,(∀k u,(apC q)[k]?=some u→W.cell? (x.add (i * 35+k))=some u)∧Key q.K∧Reads W q.v q.bs∧q.bs.length≤140737488355328-4096:=by
   intro i hi;obtain ⟨cs',h1,h2⟩:=hcell i (by omega);rw [Zjm] at h1;obtain ⟨_,hlen,hc⟩:=World.cells?_some h1;obtain ⟨q,rfl,hk,hr,hl2⟩:=Zsu h2 (hwt i hi);refine ⟨q,fun k w hw=>?_,hk,hr,hl2⟩;have hk2:=(List.getElem?_eq_some_iff.1 hw).1;have hk3:k<35:=by rw [← hlen];exact hk2
   have h3:=hc k hk3;rw [Go.Deep.add_add] at h3;rw [h3];exact hw
  obtain ⟨q,hq⟩:=Go.Deep.choose_lt each;have hget:∀i,i<len→((List.range len).map q).getD i default=q i:=fun i hi=>by simp [List.getD,hi]
  refine ⟨(List.range len).map q,some x,cap,by simp,fun hp=>?_,fun i hi=>?_⟩
  ·simp only [List.length_map,List.length_range] at hp;obtain ⟨b,off,spot⟩:=x;have hspot:spot=none:=by
    have hlen:=Zbi (q 0).k (q 0).K (q 0).v (q 0).h (hq 0 hp).2.1.1;have:=World.cell?_spot ((hq 0 hp).1 0 _ (List.getElem?_eq_getElem (by unfold apC;omega)));simpa [Addr.add] using this
   subst hspot;refine ⟨b,off,rfl,fun i hi k u hu=>?_⟩;simp only [List.length_map,List.length_range] at hi;rw [hget i hi] at hu;have:=(hq i hi).1 k u hu;rw [Addr.add_lit] at this;rw [Nat.add_assoc];exact this
  ·simp only [List.length_map,List.length_range] at hi;rw [hget i hi];exact (hq i hi).2
end Go.Proofs.YtlclabbnpjobgaaGreatDoor
namespace Go.Proofs.YtlclabbnpjobgaaGreatDoor
variable {K al bs zs:Lq}
variable {S fr:List Nat}
variable {W w w' w0 w1 w3:World}
variable {b base fuel g gc gs nb q room:Nat}
variable {cs:Lz}
variable {root:Int}
variable {v va:Value}
set_option maxHeartbeats 8000000
set_option maxRecDepth 20000
open Go.RowKit
theorem P7.from2 (h:P7 w0 S w g gs q room cs fr):∃S',P7 w S' w g gs q room cs fr∧New S w0 S'∧∀k∈S',k<w.heap.size:=by
 obtain ⟨ss,⟨vp,vf,vp2,vf2,s,d,ap,m,n1,n2⟩,R,W⟩:=h;refine ⟨stB g gs vp vf cs++rsB q vp2 vf2 ss,⟨ss,⟨vp,vf,vp2,vf2,s,d,ap,Mod.refl _ _,fun k hk=>.inl (by simp [hk]),fun k hk=>.inl (by simp [hk])⟩,R,W⟩,fun k hk=>?_,fun k hk=>?_⟩
 ·rcases List.mem_append.1 hk with e | e
  ·exact n1 k e
  ·exact n2 k e
 ·rcases List.mem_append.1 hk with e | e
  ·exact s.lts k e
  ·exact d.lts k e
structure Sn (w0 w:World) (gc g gs q room:Nat) (cs:Lz) (fr:List Nat) (root:Int) (va:Value) (al:Lq) (nb:Nat):Prop where
 ex:∃S,P7 w S w g gs q room cs fr∧(∀k∈S,w0.heap.size≤k)∧(∀k∈S,k<w.heap.size)∧gc ∉ S∧∀k,va.ownBlock=some k→k ∉ S
 low:Kb w0 w
 blk:Blk w gc 35 #[.pointer (some ⟨g,0,none⟩),.pointer (some ⟨q,0,none⟩),.int .i64 root,va]
 aside:w.ownsRow w0.heap.size 3 1 va al.length (al.map (Value.int .i64))
 gcl:w0.heap.size≤gc
 few:al.length≤9
 own:∀i,own cs [] i≤nb
structure So (w0 w:World) (gc g gs q room:Nat) (cs:Lz) (fr:List Nat) (root:Int) (va:Value) (al:Lq) (nb:Nat) (S:List Nat):Prop where
 p:P7 w S w g gs q room cs fr
 new:∀b,w.heap.size≤b→b ∉ S
 blk:Kq S w fun w'=>Blk w' gc 35 #[.pointer (some ⟨g,0,none⟩),.pointer (some ⟨q,0,none⟩),.int .i64 root,va]
 aside:Kq S w fun w'=>w'.ownsRow w0.heap.size 3 1 va al.length (al.map (Value.int .i64))
 low:∀P:World→Prop,(∀w',Kb w0 w'→P w')→Kq S w P
 own:∀i,own cs [] i≤nb
 next:∀w' cs' fr' nb',P7 w S w' g gs q room cs' fr'→(∀i,Go.Proofs.YtlclabbnpjobgaaGreatDoor.own cs' [] i≤nb')→Sn w0 w' gc g gs q room cs' fr' root va al nb'
theorem Sn.so (h:Sn w0 w gc g gs q room cs fr root va al nb):∃S,So w0 w gc g gs q room cs fr root va al nb S:=by
 obtain ⟨S,p,h1,h2,h3,h4⟩:=h.ex;refine ⟨S,p,fun b hb e=>by have:=h2 b e;omega,Kq.blk h.blk h3,fun w' m=>Zck h.aside m h4,fun P k=>Kq.of_low k h.low h1,h.own,fun w' cs' fr' nb' p' ho=>?_⟩;obtain ⟨S',p2,n,l⟩:=p'.from2;refine ⟨⟨S',p2,n.base h1 h.low.size,l,fun e=>?_,fun k hk e=>?_⟩,h.low.trans (p'.mod.below h1 h.low.size),(Kq.blk h.blk h3) w' p'.mod,Zck h.aside p'.mod h4,h.gcl,h.few,ho⟩
 ·rcases n gc e with e | e
  ·exact h3 e
  ·have:=h.blk.lt;omega
 ·rcases n k e with e | e
  ·exact h4 k hk e
  ·have:=(h.aside.lt k hk).2;omega
theorem Sn.grow (h:Sn w0 w gc g gs q room cs fr root va al nb) (hb:Kb w w'):Sn w0 w' gc g gs q room cs fr root va al nb:=by
 obtain ⟨S,o⟩:=h.so;exact o.next _ _ _ _ (o.p.grow hb) o.own
theorem Sn.more {nb':Nat} (h:Sn w0 w gc g gs q room cs fr root va al nb) (hb:nb≤nb'):Sn w0 w gc g gs q room cs fr root va al nb':=⟨h.ex,h.low,h.blk,h.aside,h.gcl,h.few,fun i=>Nat.le_trans (h.own i) hb⟩
theorem Zp (h:Blk w gc 35 #[.pointer (some ⟨g,0,none⟩),.pointer (some ⟨q,0,none⟩),.int .i64 root,va]):w.cell? ⟨gc,0,none⟩=some (.pointer (some ⟨g,0,none⟩))∧w.cell? ⟨gc,1,none⟩=some (.pointer (some ⟨q,0,none⟩))∧w.cell? ⟨gc,2,none⟩=some (.int .i64 root)∧w.cell? ⟨gc,3,none⟩=some va:=⟨by rw [h.cell];rfl,by rw [h.cell];rfl,by rw [h.cell];rfl,by rw [h.cell];rfl⟩
theorem So.rebase (o:So w0 w gc g gs q room cs fr root va al nb S) (hb:Kb w w1):So w0 w1 gc g gs q room cs fr root va al nb S:=⟨o.p.rebase hb,fun b h=>o.new b (Nat.le_trans hb.size h),o.blk.grow hb,o.aside.grow hb,fun P k=>(o.low P k).grow hb,o.own,fun w' cs' fr' nb' p ho=>o.next w' cs' fr' nb' (P7.back hb p) ho⟩
theorem P7.poke {A:List Nat} (h:P7 w S w g gs q room cs fr) (m:Mod A w w') (hn:∀k∈A,k ∉ S):P7 w' S w' g gs q room cs fr:=by
 obtain ⟨ss,⟨vp,vf,vp2,vf2,s,d,ap,_,n1,n2⟩,R,W⟩:=h;have a1:∀k∈stB g gs vp vf cs,k∈S:=fun k hk=>by
  rcases n1 k hk with e | e
  ·exact e
  ·have:=s.lts k hk;omega
 have a2:∀k∈rsB q vp2 vf2 ss,k∈S:=fun k hk=>by
  rcases n2 k hk with e | e
  ·exact e
  ·have:=d.lts k hk;omega
 exact ⟨ss,⟨vp,vf,vp2,vf2,s.mod m (fun k hk e=>hn k e (a1 k hk)),d.mod m (fun k hk e=>hn k e (a2 k hk)),ap,Mod.refl _ _,fun k hk=>.inl (a1 k hk),fun k hk=>.inl (a2 k hk)⟩,R,W⟩
theorem Zyg:(3:Nat)≠35:=by decide
theorem Sn.turn (h:Sn w0 w gc g gs q room cs fr root va al nb) (y:Int):Sn w0 (w.setCell ⟨gc,2,none⟩ (.int .i64 y)) gc g gs q room cs fr y va al nb:=by
 obtain ⟨S,p,h1,h2,h3,h4⟩:=h.ex;have m:Mod [gc] w (w.setCell ⟨gc,2,none⟩ (.int .i64 y)):=Mod.setCell w gc 2 _ (by simp);have hne:va.ownBlock≠some gc:=Zm (Zu h.aside) h.blk Zyg;refine ⟨⟨S,p.poke m (fun k hk=>by rw [List.mem_singleton.1 hk];exact h3),h1,fun k hk=>Nat.lt_of_lt_of_le (h2 k hk) m.size,h3,h4⟩,Zw 2 _ h.low h.gcl,h.blk.set 2 _,Zck h.aside m (fun k hk e=>hne (by rw [hk,List.mem_singleton.1 e])),h.gcl,h.few,h.own⟩
theorem Sn.reside {A:List Nat} {va':Value} {al':Lq} (h:Sn w0 w gc g gs q room cs fr root va al nb) (m:Mod A w w1) (hA:∀k∈A,va.ownBlock=some k) (ho:w1.ownsRow w0.heap.size 3 1 va' al'.length (al'.map (Value.int .i64))) (hw:∀k,va'.ownBlock=some k→va.ownBlock=some k∨w.heap.size≤k) (hf:al'.length≤9):Sn w0 (w1.setCell ⟨gc,3,none⟩ va') gc g gs q room cs fr root va' al' nb:=by
 obtain ⟨S,p,h1,h2,h3,h4⟩:=h.ex;have hne0:va.ownBlock≠some gc:=Zm (Zu h.aside) h.blk Zyg;have b1:Blk w1 gc 35 #[.pointer (some ⟨g,0,none⟩),.pointer (some ⟨q,0,none⟩),.int .i64 root,va]:=h.blk.mod m (fun e=>hne0 (hA gc e));have low1:Kb w0 w1:=h.low.trans (m.below (fun k hk=>(h.aside.lt k (hA k hk)).1) h.low.size);have m2:Mod [gc] w1 (w1.setCell ⟨gc,3,none⟩ va'):=Mod.setCell w1 gc 3 _ (by simp);have hne:va'.ownBlock≠some gc:=Zm (Zu ho) b1 Zyg;refine ⟨⟨S,(p.poke m (fun k hk=>h4 k (hA k hk))).poke m2 (fun k hk=>by rw [List.mem_singleton.1 hk];exact h3),h1,fun k hk=>Nat.lt_of_lt_of_le (h2 k hk) (Nat.le_trans m.size m2.size),h3,fun k hk e=>?_⟩,Zw 3 _ low1 h.gcl,b1.set 3 _,Zck ho m2 (fun k hk e=>hne (by rw [hk,List.mem_singleton.1 e])),h.gcl,hf,h.own⟩;rcases hw k hk with q | q
 ·exact h4 k q e
 ·have:=h2 k e;omega
def ScPut (w:World) (S:List Nat) (g gs q room:Nat) (cs:Lz) (x:Int) (e:Ending) (w':World):Prop:=∃y er cs' fr',e=.returned (.tuple #[.int .i64 y,.int .i64 er,.bool true])∧P7 w S w' g gs q room cs' fr'∧PtX cs x y er cs'
theorem Ygh (o:So w0 w gc g gs q room cs fr root va al nb S) (h5:room≤5000) (hnb:nb≤1000) (hL:∀w',Kb w0 w'→Laid w') (x:Int) (a:Ap) (hK:Key a.K) (hr:∀w',Kb w0 w'→Reads w' a.v a.bs) (hm:a.bs.length≤2000):Kc 52 #[.pointer (some ⟨gc,0,none⟩),.int .i64 x,.agg (apC a).toArray] w (ScPut w S g gs q room cs x):=by
 obtain ⟨k,K,v,bs,hh⟩:=a;have hsh:apC ⟨k,K,v,bs,hh⟩=apL k K v hh:=rfl;rw [hsh];have HPost:Hid (∀w' cs' fr' (y er:Int),P7 w S w' g gs q room cs' fr'→PtX cs x y er cs'→ScPut w S g gs q room cs x (.returned (.tuple #[.int .i64 y,.int .i64 er,.bool true])) w'):=fun w' cs' fr' y er p ho=>⟨y,er,cs',fr',rfl,p,ho⟩
 have HS:Hid (∀b,w.heap.size≤b→b ∉ S):=o.new;have HR:=Za (o.low _ hr);have HLa:=Za (o.low _ hL);have HH:=Za o.p;have HM:=Za hm;have HMb:Hid (bs.length≤140737488355328):=by have:=HM.out;simp only at this;show _≤_;omega
 have HKL:=Za hK.1;have HKZ:Hid ((Tryz.prog.info? 48).map (·.size)=some (B K).toList.length):=by show _=_;rw [Array.length_toList,Zn,HKL.out];exact Zi
 have HSC:=Za o.blk;have HPU:Hid (∀w2 w3 v',P7 w2 S w3 g gs q room cs fr→Kq S w2 (fun w'=>Reads w' v' bs)→Kq S w2 (fun w'=>Reads w' v bs)→Kq S w2 Laid→Kc 38 #[.pointer (some ⟨g,0,none⟩),.int .i64 x,.agg (B K),v'] w3 fun e w'=>∃y er cs' fr',e=.returned (.tuple #[.int .i64 y,.int .i64 er])∧Two7 w2 S g gs q room 85 #[.pointer (some ⟨q,0,none⟩),.int .i64 x,.agg (B K),v] (.returned (.tuple #[.int .i64 y,.int .i64 er])) cs' fr' w'∧PtX cs x y er cs'):=fun w2 w3 v' p k1 k2 k3=>Ygw p h5 (fun i=>by have:=o.own i;omega) x hK k1 k2 k3
 generalize ScPut w S g gs q room cs x=P at HPost ⊢;clear o hK hr hm hL hsh h5 hnb;go_enter Tryz.func52,Tryz.ntmps52
 go_wp2_with (first
  |((with_reducible refine Zo 5 ?_);refine Zd _ rfl _ _ rfl _ rfl ?_;intro w1 b3 hg3 hl3 B3 q1;have HQ1:=Za q1;have HB1:=Za (Kq.blk B3 (HS.out b3 hg3));have z1:=Zmr B3 HKL.out;clear hg3 hl3 B3 q1)
  |(go_at_call 84;refine (Yja HS.out HH.out HQ1.out HR.out HM.out).mono ?_;rintro e w2 ⟨bl,rfl,L2,b2⟩;have HL2:=Za L2;have HB2:=Za (HB1.out.grow b2);clear L2 b2))
 have HSC2:=Za (HSC.out.grow HL2.out.1);have HRO:Hid (Kq S w2 (fun w'=>Reads w' (.slice (some ⟨bl,0,none⟩) bs.length (bs.length+5)) bs)):=HL2.out.2.2.2.2.1.imp fun w' _ r=>r.reads
 have hP2:=HL2.out.2.2.2.2.2.2.grow (below_drewN (Below.refl _ _) 1);refine wp_region_held_drew (S:=fun w'=>Blk w' gc 35 #[.pointer (some ⟨g,0,none⟩),.pointer (some ⟨q,0,none⟩),.int .i64 root,va]∧Blk w' b3 73 (apL k K v hh).toArray) (by kernel_rfl) (⟨HSC2.out.now.grow (below_drewN (Below.refl _ _) 1),HB2.out.now.grow (below_drewN (Below.refl _ _) 1)⟩) (fun hHeld=>?_);refine tkp 0 (.pointer (some ⟨gc,0,none⟩)) hHeld ?_;simp only [zq];refine tkp 1 (.pointer (some ⟨gc,0,none⟩)) hHeld ?_;simp only [zq];refine tkp 2 (.pointer (some ⟨gc,0,none⟩)) hHeld ?_;simp only [zq];refine tkg 3 (.pointer (some ⟨g,0,none⟩)) rfl (Or.inl ⟨by rfl,fun w hS=>by (have q1:=(Zp hS.1).1;go_simp)⟩) hHeld ?_;simp only [zq];refine tkp 4 (.int .i64 x) hHeld ?_;simp only [zq];refine tkp 5 (.pointer (some ⟨b3,1,none⟩)) hHeld ?_;simp only [zq];refine tkg 6 (.agg (B K)) rfl (yieldsIf_load_mid rfl 48 (.tmp 24) rfl b3 1 rfl (B K).toList _ (fun w hS=>Zhi hS.2) Tryz.underlying48 rfl HKZ.out) hHeld ?_;simp only [zq];refine tkp 7 (.slice (some ⟨bl,0,none⟩) bs.length (bs.length+5)) hHeld ?_;simp only [zq];refine wpAnyH_ready (rs:=[8]) (by kernel_rfl) (by simp) ?_;refine AllReadyH.cons rfl (fun KQ hK=>?_) AllReadyH.nil;go_simp;refine (HPU.out _ _ _ hP2 HRO.out (HR.out.grow HL2.out.1) (HLa.out.grow HL2.out.1)).mono ?_;rintro e w3 ⟨y3,e3,cs3,fr3,rfl,t3,o3⟩;refine hK.out _ _ (⟨t3.kq HSC2.out,t3.kq HB2.out⟩) (fun hHeld=>?_);clear hK KQ;refine tkp 9 (.tuple #[.int .i64 y3,.int .i64 e3]) hHeld ?_;simp only [zq];refine tkp 10 (.int .i64 y3) hHeld ?_;simp only [zq];refine tkp 11 (.int .i64 e3) hHeld ?_;simp only [zq];refine tkp 12 (.int .i64 y3) hHeld ?_;simp only [zq];refine tkp 13 (.int .i64 e3) hHeld ?_;simp only [zq];refine wpAnyH_done (by kernel_rfl) ?_ _;have HT3:=Za t3;clear t3 hP2 hHeld
 go_wp2_with fail
 have hT3:=HT3.out.grow (below_drewN (Below.refl _ _) 1);refine wp_region_held_drew (S:=fun w'=>Blk w' gc 35 #[.pointer (some ⟨g,0,none⟩),.pointer (some ⟨q,0,none⟩),.int .i64 root,va]∧Blk w' b3 73 (apL k K v hh).toArray) (by kernel_rfl) (⟨hT3.kq HSC2.out,hT3.kq HB2.out⟩) (fun hHeld=>?_);refine tkp 0 (.pointer (some ⟨gc,0,none⟩)) hHeld ?_;simp only [zq];refine tkp 1 (.pointer (some ⟨gc,0,none⟩)) hHeld ?_;simp only [zq];refine tkp 2 (.pointer (some ⟨gc,1,none⟩)) hHeld ?_;simp only [zq];refine tkg 3 (.pointer (some ⟨q,0,none⟩)) rfl (Or.inl ⟨by rfl,fun w hS=>by (have q1:=(Zp hS.1).2.1;go_simp)⟩) hHeld ?_;simp only [zq];refine tkp 4 (.int .i64 x) hHeld ?_;simp only [zq];refine tkp 5 (.pointer (some ⟨b3,1,none⟩)) hHeld ?_;simp only [zq];refine tkg 6 (.agg (B K)) rfl (yieldsIf_load_mid rfl 48 (.tmp 36) rfl b3 1 rfl (B K).toList _ (fun w hS=>Zhi hS.2) Tryz.underlying48 rfl HKZ.out) hHeld ?_;simp only [zq];refine tkp 7 (.pointer (some ⟨b3,33,none⟩)) hHeld ?_;simp only [zq];refine tkg 8 (v) rfl (Or.inl ⟨by rfl,fun w hS=>by (have q1:=Zmr hS.2 HKL.out;go_simp)⟩) hHeld ?_;simp only [zq];refine wpAnyH_ready (rs:=[9]) (by kernel_rfl) (by simp) ?_;refine AllReadyH.cons rfl (fun KQ hK=>?_) AllReadyH.nil;go_simp;refine hT3.go.mono ?_;rintro e w4 ⟨rfl,t4⟩;refine hK.out _ _ (⟨t4.kq HSC2.out,t4.kq HB2.out⟩) (fun hHeld=>?_);clear hK KQ;refine tkp 10 (.tuple #[.int .i64 y3,.int .i64 e3]) hHeld ?_;simp only [zq];refine tkp 11 (.int .i64 y3) hHeld ?_;simp only [zq];refine tkp 12 (.int .i64 e3) hHeld ?_;simp only [zq];refine tkp 13 (.int .i64 y3) hHeld ?_;simp only [zq];refine tkp 14 (.int .i64 e3) hHeld ?_;simp only [zq];refine wpAnyH_done (by kernel_rfl) ?_ _;have HT4:=Za t4;have HO4:=Za o3;clear t4 hHeld hT3;have z4:=Zmr (HT4.out.kq HB2.out) HKL.out
 go_wp2_with (first
  |(go_at_call 86;refine (Zvr _ v bs _ (HT4.out.kq HL2.out.2.2.2.2.2.1) (HT4.out.kq (HR.out.grow HL2.out.1)) HMb.out).mono ?_;rintro e w5 ⟨rfl,b5⟩;have HT5:=Za (HT4.out.grow b5);clear b5)
  |(go_at_call 69;refine (Zzu 0 _ bs _ _ (HT5.out.kq HL2.out.2.2.2.2.1)).mono ?_;rintro e w6 ⟨rfl,-,g6,-⟩;have HT6:=Za (HT5.out.over HL2.out.1 HL2.out.2.1 HL2.out.2.2.1 HL2.out.2.2.2.1 g6);clear g6))
 go_ret3;exact HPost.out _ _ _ _ _ HT6.out HO4.out
theorem Zty (h:Sn w0 w gc g gs q room cs fr root va al nb) (h5:room≤5000) (hnb:nb≤1000) (x:Int) (a:Ap) (hK:Key a.K) (hr:∀w',Kb w0 w'→Reads w' a.v a.bs):Kc 57 #[.pointer (some ⟨gc,0,none⟩),.int .i64 x,.agg (apC a).toArray] w fun e w'=>e=.returned (.bool true)∧Kb w w':=by
 obtain ⟨S,o⟩:=h.so;obtain ⟨k,K,v,bs,hh⟩:=a;have hsh:apC ⟨k,K,v,bs,hh⟩=apL k K v hh:=rfl;rw [hsh];obtain ⟨y,er,hc⟩:=Yhu o.p h5 (fun i=>by have:=o.own i;omega) x hK (o.low _ hr).now;have HC1:Hid (Kr w 96 #[.pointer (some ⟨g,0,none⟩),.int .i64 x,.agg (B K),v] (.tuple #[.int .i64 y,.int .i64 er])):=fun w' hb=>(hc w' hb).1
 have HC2:Hid (Kr w 97 #[.pointer (some ⟨q,0,none⟩),.int .i64 x,.agg (B K),v] (.tuple #[.int .i64 y,.int .i64 er])):=fun w' hb=>(hc w' hb).2
 have HKL:=Za hK.1;have HKZ:Hid ((Tryz.prog.info? 48).map (·.size)=some (B K).toList.length):=by show _=_;rw [Array.length_toList,Zn,HKL.out];exact Zi
 have HSC:=Za h.blk;clear o h hK hr hsh hc h5 hnb;go_enter Tryz.func57,Tryz.ntmps57
 go_wp2_with (first
  |((with_reducible refine Zo 5 ?_);refine Zd _ rfl _ _ rfl _ rfl ?_;intro w1 b3 hg3 hl3 B3 q1;have HQ1:=Za q1;have HB1:=Za B3;have HS1:=Za (HSC.out.grow q1);clear hg3 hl3 B3 q1))
 refine wp_region_held_drew (S:=fun w'=>Kb w1 w') (by kernel_rfl) (below_drewN (Below.refl _ _) 1) (fun hHeld=>?_);refine tkp 0 (.pointer (some ⟨gc,0,none⟩)) hHeld ?_;simp only [zq];refine tkp 1 (.pointer (some ⟨gc,0,none⟩)) hHeld ?_;simp only [zq];refine tkp 2 (.pointer (some ⟨gc,0,none⟩)) hHeld ?_;simp only [zq];refine tkg 3 (.pointer (some ⟨g,0,none⟩)) rfl (Or.inl ⟨by rfl,fun w hS=>by (have q1:=(Zp (HS1.out.grow hS)).1;go_simp)⟩) hHeld ?_;simp only [zq];refine tkp 4 (.int .i64 x) hHeld ?_;simp only [zq];refine tkp 5 (.pointer (some ⟨b3,1,none⟩)) hHeld ?_;simp only [zq];refine tkg 6 (.agg (B K)) rfl (yieldsIf_load_mid rfl 48 (.tmp 17) rfl b3 1 rfl (B K).toList _ (fun w hS=>Zhi (HB1.out.grow hS)) Tryz.underlying48 rfl HKZ.out) hHeld ?_;simp only [zq];refine tkp 7 (.pointer (some ⟨b3,33,none⟩)) hHeld ?_;simp only [zq];refine tkg 8 (v) rfl (Or.inl ⟨by rfl,fun w hS=>by (have q1:=Zmr (HB1.out.grow hS) HKL.out;go_simp)⟩) hHeld ?_;simp only [zq];refine wpAnyH_ready (rs:=[9]) (by kernel_rfl) (by simp) ?_;refine AllReadyH.cons rfl (fun KQ hK=>?_) AllReadyH.nil;go_simp;refine (HC1.out _ (Zb HQ1.out hHeld)).mono ?_;rintro e z1 ⟨rfl,a1⟩;refine hK.out _ _ (Zb hHeld a1) (fun hHeld=>?_);clear hK KQ;refine tkp 10 (.tuple #[.int .i64 y,.int .i64 er]) hHeld ?_;simp only [zq];refine tkp 11 (.int .i64 y) hHeld ?_;simp only [zq];refine tkp 12 (.int .i64 er) hHeld ?_;simp only [zq];refine tkp 13 (.int .i64 y) hHeld ?_;simp only [zq];refine tkp 14 (.int .i64 er) hHeld ?_;simp only [zq];refine wpAnyH_done (by kernel_rfl) ?_ _;have HH:=Za hHeld;clear hHeld
 go_wp2_with fail
 refine wp_region_held_drew (S:=fun w'=>Kb w1 w') (by kernel_rfl) (Zb HH.out (below_drewN (Below.refl _ _) 1)) (fun hHeld=>?_);refine tkp 0 (.pointer (some ⟨gc,0,none⟩)) hHeld ?_;simp only [zq];refine tkp 1 (.pointer (some ⟨gc,0,none⟩)) hHeld ?_;simp only [zq];refine tkp 2 (.pointer (some ⟨gc,1,none⟩)) hHeld ?_;simp only [zq];refine tkg 3 (.pointer (some ⟨q,0,none⟩)) rfl (Or.inl ⟨by rfl,fun w hS=>by (have q1:=(Zp (HS1.out.grow hS)).2.1;go_simp)⟩) hHeld ?_;simp only [zq];refine tkp 4 (.int .i64 x) hHeld ?_;simp only [zq];refine tkp 5 (.pointer (some ⟨b3,1,none⟩)) hHeld ?_;simp only [zq];refine tkg 6 (.agg (B K)) rfl (yieldsIf_load_mid rfl 48 (.tmp 30) rfl b3 1 rfl (B K).toList _ (fun w hS=>Zhi (HB1.out.grow hS)) Tryz.underlying48 rfl HKZ.out) hHeld ?_;simp only [zq];refine tkp 7 (.pointer (some ⟨b3,33,none⟩)) hHeld ?_;simp only [zq];refine tkg 8 (v) rfl (Or.inl ⟨by rfl,fun w hS=>by (have q1:=Zmr (HB1.out.grow hS) HKL.out;go_simp)⟩) hHeld ?_;simp only [zq];refine wpAnyH_ready (rs:=[9]) (by kernel_rfl) (by simp) ?_;refine AllReadyH.cons rfl (fun KQ hK=>?_) AllReadyH.nil;go_simp;refine (HC2.out _ (Zb HQ1.out hHeld)).mono ?_;rintro e z2 ⟨rfl,a1⟩;refine hK.out _ _ (Zb hHeld a1) (fun hHeld=>?_);clear hK KQ;refine tkp 10 (.tuple #[.int .i64 y,.int .i64 er]) hHeld ?_;simp only [zq];refine tkp 11 (.int .i64 y) hHeld ?_;simp only [zq];refine tkp 12 (.int .i64 er) hHeld ?_;simp only [zq];refine tkp 13 (.int .i64 y) hHeld ?_;simp only [zq];refine tkp 14 (.int .i64 er) hHeld ?_;simp only [zq];refine wpAnyH_done (by kernel_rfl) ?_ _;have HH2:=Za hHeld;clear hHeld
 go_wp2_with fail
 go_ret;exact ⟨rfl,Zb HQ1.out HH2.out⟩
end Go.Proofs.YtlclabbnpjobgaaGreatDoor
