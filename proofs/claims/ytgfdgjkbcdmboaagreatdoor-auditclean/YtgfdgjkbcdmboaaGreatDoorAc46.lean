/- A law's call of one store (do), as a contract: whatever it is, a store is left. -/
import Derived.Test.YtgfdgjkbcdmboaaGreatDoorAc45
namespace Go.Proofs.YtgfdgjkbcdmboaaGreatDoor
set_option maxRecDepth 20000
open Go.RowKit
def Hx (w0 w:World) (X:List (Nat×Obj)) (g gs room:Nat) (cs:List (Nat×Ce)) (fr:List Nat):Prop:=(∃vp vf,Stm w g gs vp vf room cs fr∧(∀k∈stB g gs vp vf cs,w0.heap.size≤k)∧Below w0.heap.size w0 w∧∀x∈X,w.heap[x.1]?=some x.2∧x.1 ∉ stB g gs vp vf cs)∧Wf cs []
section
variable {w0 w w1 w2:World} {S:List Nat} {g gs q room:Nat} {cs:List (Nat×Ce)} {fr:List Nat}
theorem P7.rebase (h:P7 w S w g gs q room cs fr) (hb:Below w.heap.size w w1):P7 w1 S w1 g gs q room cs fr:=by
 obtain ⟨ss,⟨vp,vf,vp2,vf2,s,d,ap,m,n1,n2⟩,R,W⟩:=h
 refine ⟨ss,⟨vp,vf,vp2,vf2,s.grow hb,d.grow hb,ap,Mod.refl _ _,fun k hk=>?_,fun k hk=>?_⟩,R,W⟩
 ·rcases n1 k hk with e | e
  ·exact .inl e
  ·have:=s.lts k hk
   omega
 ·rcases n2 k hk with e | e
  ·exact .inl e
  ·have:=d.lts k hk
   omega
theorem P7.back (hb:Below w.heap.size w w1) (h:P7 w1 S w2 g gs q room cs fr):P7 w S w2 g gs q room cs fr:=by
 obtain ⟨ss,⟨vp,vf,vp2,vf2,s,d,ap,m,n1,n2⟩,R,W⟩:=h
 refine ⟨ss,⟨vp,vf,vp2,vf2,s,d,ap,(Mod.of_below hb S).trans' m,fun k hk=>?_,fun k hk=>?_⟩,R,W⟩
 ·rcases n1 k hk with e | e
  ·exact .inl e
  ·exact .inr (Nat.le_trans hb.size e)
 ·rcases n2 k hk with e | e
  ·exact .inl e
  ·exact .inr (Nat.le_trans hb.size e)
theorem P7.over {w3:World} {b:Nat} (hb:Below w.heap.size w w1) (h:P7 w1 S w2 g gs q room cs fr) (h1:w.heap.size≤b) (h2:b<w1.heap.size) (h3:b ∉ S) (hg:w2.grownBy w3 (some b)):P7 w S w3 g gs q room cs fr:=by
 have m3:Mod [b] w2 w3:=Mod.of_some hg (by simp)
 have hb':=P7.back hb h
 obtain ⟨ss,⟨vp,vf,vp2,vf2,s,d,ap,m,n1,n2⟩,R,W⟩:=h
 have a1:∀k∈stB g gs vp vf cs,k ∉ [b]:=fun k hk e=>by
  obtain rfl:k=b:=by simpa using e
  rcases n1 k hk with e | e
  ·exact h3 e
  ·omega
 have a2:∀k∈rsB q vp2 vf2 ss,k ∉ [b]:=fun k hk e=>by
  obtain rfl:k=b:=by simpa using e
  rcases n2 k hk with e | e
  ·exact h3 e
  ·omega
 refine ⟨ss,⟨vp,vf,vp2,vf2,s.mod m3 a1,d.mod m3 a2,ap,hb'.mod.trans (fun k hk=>.inr ?_) m3,fun k hk=>?_,fun k hk=>?_⟩,R,W⟩
 ·obtain rfl:k=b:=by simpa using hk
  exact h1
 ·rcases n1 k hk with e | e
  ·exact .inl e
  ·exact .inr (Nat.le_trans hb.size e)
 ·rcases n2 k hk with e | e
  ·exact .inl e
  ·exact .inr (Nat.le_trans hb.size e)
end
theorem Kq.row {S:List Nat} {w:World} {b:Nat} {zs:List Int} (h:Row w b zs) (hn:b ∉ S):Kq S w (fun w'=>Row w' b zs):=fun _ m=>h.of_block (m.block b h.lt hn)
def ActPost7 (w0:World) (S:List Nat) (g gs q room:Nat) (e:Ending) (w':World):Prop:=e=.returned (.bool true)∧∃cs fr,P7 w0 S w' g gs q room cs fr
theorem Zyk {w:World} {b:Nat} {zs:List Int} (h:Row w b (zs++marks zs.length)) (hb:Bytes zs) (hl:zs.length≤2000):Own 0 w (.slice (some ⟨b,0,none⟩) zs.length (zs.length+5)) zs (marks zs.length):=by
 have h1:=Own.mk (base:=0) hb (Zje zs.length) (by rw [Zbj];simp only [maxLen];omega) (Nat.zero_le _) h
 rw [Zbj] at h1
 exact h1
def Lent7 (w:World) (S:List Nat) (g gs q room:Nat) (cs:List (Nat×Ce)) (fr:List Nat) (bs:List Int) (b:Nat) (w2:World):Prop:=Below w.heap.size w w2∧w.heap.size≤b∧b<w2.heap.size∧b ∉ S∧Kq S w2 (fun w'=>Own 0 w' (.slice (some ⟨b,0,none⟩) bs.length (bs.length+5)) bs (marks bs.length))∧Kq S w2 (fun w'=>Row w' b (bs++marks bs.length))∧P7 w2 S w2 g gs q room cs fr
theorem Ync {w w1:World} {S:List Nat} {g gs q room:Nat} {cs:List (Nat×Ce)} {fr:List Nat} {v:Value} {bs:List Int} (HS:∀b,w.heap.size≤b→b ∉ S) (h:P7 w S w g gs q room cs fr) (hb:Below w.heap.size w w1) (hr:Kq S w fun w'=>Reads w' v bs) (hl:bs.length≤2000):Calls Tryz.prog 125 #[v] w1 fun e w2=>∃b,e=.returned (.slice (some ⟨b,0,none⟩) bs.length (bs.length+5))∧Lent7 w S g gs q room cs fr bs b w2∧Below w1.heap.size w1 w2:=by
 have hr1:=(hr.grow hb).now
 have hby:Bytes bs:=by obtain ⟨_,_,_,_,_,hb,_⟩:=hr1;exact hb
 refine (Zry v bs w1 hr1 (by omega)).mono ?_
 rintro e w2 ⟨rfl,r2,b2,s2⟩
 have hn:=HS _ hb.size
 have k:=Kq.row r2 hn
 exact ⟨_,rfl,⟨Zb hb b2,hb.size,by omega,hn,k.imp fun w' _ r=>Zyk r hby hl,k,h.rebase (Zb hb b2)⟩,b2⟩
end Go.Proofs.YtgfdgjkbcdmboaaGreatDoor
namespace Go.Proofs.YtgfdgjkbcdmboaaGreatDoor
set_option maxRecDepth 20000
open Go.RowKit
def apL (k:Int) (K:List Int) (v:Value) (h:Int):List Value:=.int .i64 k::(K.map (Value.int .u8)++[v,.int .i64 h])
theorem Zbm (k:Int) (K:List Int) (v:Value) (h:Int) (hK:K.length=32):(apL k K v h).length=35:=by simp [apL,hK]
theorem Zqt {k:Int} {K:List Int} {v:Value} {h:Int} (hK:K.length=32):(apL k K v h)[33]?=some v∧(apL k K v h)[34]?=some (.int .i64 h):=by
 have e:apL k K v h=(.int .i64 k::K.map (Value.int .u8))++[v,.int .i64 h]:=rfl
 have hl:(Value.int .i64 k::K.map (Value.int .u8)).length=33:=by simp [hK]
 rw [e]
 exact ⟨by rw [List.getElem?_append_right (by omega),hl];rfl,by rw [List.getElem?_append_right (by omega),hl];rfl⟩
theorem Zfj {w:World} {b:Nat} {t:TypeId} {k:Int} {K:List Int} {v:Value} {h:Int} (hb:Blk w b t (apL k K v h).toArray):w.cell? ⟨b,0,none⟩=some (.int .i64 k):=by rw [hb.cell];rfl
theorem Zoo {w:World} {b:Nat} {t:TypeId} {k:Int} {K:List Int} {v:Value} {h:Int} (hb:Blk w b t (apL k K v h).toArray) (hK:K.length=32):w.cell? ⟨b,33,none⟩=some v:=by rw [hb.cell];simpa using (Zqt hK).1
theorem Zcu {w:World} {b:Nat} {t:TypeId} {k:Int} {K:List Int} {v:Value} {h:Int} (hb:Blk w b t (apL k K v h).toArray) (hK:K.length=32):w.cell? ⟨b,34,none⟩=some (.int .i64 h):=by rw [hb.cell];simpa using (Zqt hK).2
theorem Zie {w:World} {b:Nat} {t:TypeId} {k:Int} {K:List Int} {v:Value} {h:Int} (hb:Blk w b t (apL k K v h).toArray):w.rangeAt b 1 (K.map (Value.int .u8)):=fun j u hu=>by
 rw [hb.cell]
 have hj:j<(K.map (Value.int .u8)).length:=(List.getElem?_eq_some_iff.1 hu).1
 show (apL k K v h).toArray[1+j]?=some u
 rw [List.getElem?_toArray,show 1+j=j+1 by omega]
 show (K.map (Value.int .u8)++[v,.int .i64 h])[j]?=some u
 rw [List.getElem?_append_left hj]
 exact hu
end Go.Proofs.YtgfdgjkbcdmboaaGreatDoor
namespace Go.Proofs.YtgfdgjkbcdmboaaGreatDoor
set_option maxRecDepth 20000
open Go.ChangeShapes Go.WideShapes Go.ChangeAt Go.RowKit
structure Ap where
 k:Int
 K:List Int
 v:Value
 bs:List Int
 h:Int
def apC (q:Ap):List Value:=apL q.k q.K q.v q.h
instance:Inhabited Ap:=⟨⟨0,z32,.slice none 0 0,[],0⟩⟩
theorem Zkv:Tryz.prog.cellsOf 74=35:=by kernel_rfl
theorem Zkt:Tryz.prog.cellsOf 3=1:=by kernel_rfl
theorem Yaf:Tryz.prog.cellsOf 72=1:=by kernel_rfl
theorem Zhj {H:Type} {P:Program} {e:TypeId} {d:DataW H} {n:Nat} (hn:n∈d.weights P e):∀l:List (DataW H),d∈l→n∈DataW.weightsAll P e l
 | [],h=>by simp at h
 | x::r,h=>by
  simp only [DataW.weightsAll,List.mem_append]
  rcases List.mem_cons.1 h with rfl | h
  ·exact .inl hn
  ·exact .inr (Zhj hn r h)
theorem Zpq (cs:List Value) (i:Nat) (h:i<cs.length):∃u,(cs.drop i).take 1=[u]∧cs[i]?=some u:=by
 refine ⟨cs[i],?_,List.getElem?_eq_getElem h⟩
 rw [List.drop_eq_getElem_cons h]
 rfl
theorem Zvs {H:Type} {enc:TypeId×Value→H} {W:World} {fuel:Nat} {cs:List Value} {z:DataW H×List MemPlace} (h:DataW.trod enc Tryz.prog W 0 (fun _=>true) true fuel 74 cs=some z) (hw:∀m∈z.1.weights Tryz.prog 74,m≤reachBytes):
  ∃q:Ap,cs=apC q∧Key q.K∧Reads W q.v q.bs∧q.bs.length≤140737488355328-4096:=by
 have hF:∃f0 f1 f2 f3:Field,Tryz.prog.underlying 74=some (.struct #[f0,f1,f2,f3])∧(f0.type=3∧f0.offset=0)∧(f1.type=34∧f1.offset=1)∧(f2.type=72∧f2.offset=33)∧(f3.type=3∧f3.offset=34):=⟨_,_,_,_,Tryz.underlying74,⟨rfl,rfl⟩,⟨rfl,rfl⟩,⟨rfl,rfl⟩,⟨rfl,rfl⟩⟩
 obtain ⟨f0,f1,f2,f3,hu,⟨t0,o0⟩,⟨t1,o1⟩,⟨t2,o2⟩,⟨t3,o3⟩⟩:=hF
 obtain ⟨xs,n,hk,hxy,hl,hxl,hf⟩:=DataW.trod_struct hu h
 rw [Zkv] at hl
 match xs,hxl with
 | [y0,y1,y2,y3],_=>
  have g0:DataW.trod enc Tryz.prog W 0 (fun _=>true) true n f0.type ((cs.drop f0.offset).take (Tryz.prog.cellsOf f0.type))=some y0:=hf 0 f0 rfl
  have g1:DataW.trod enc Tryz.prog W 0 (fun _=>true) true n f1.type ((cs.drop f1.offset).take (Tryz.prog.cellsOf f1.type))=some y1:=hf 1 f1 rfl
  have g2:DataW.trod enc Tryz.prog W 0 (fun _=>true) true n f2.type ((cs.drop f2.offset).take (Tryz.prog.cellsOf f2.type))=some y2:=hf 2 f2 rfl
  have g3:DataW.trod enc Tryz.prog W 0 (fun _=>true) true n f3.type ((cs.drop f3.offset).take (Tryz.prog.cellsOf f3.type))=some y3:=hf 3 f3 rfl
  rw [t0,o0,Zkt] at g0
  rw [t1,o1,Zks] at g1
  rw [t2,o2,Yaf] at g2
  rw [t3,o3,Zkt] at g3
  obtain ⟨u0,a0,b0⟩:=Zpq cs 0 (by omega)
  obtain ⟨u2,a2,b2⟩:=Zpq cs 33 (by omega)
  obtain ⟨u3,a3,b3⟩:=Zpq cs 34 (by omega)
  rw [a0] at g0
  rw [a2] at g2
  rw [a3] at g3
  obtain ⟨k0,e0,_,_⟩:=DataW.trod_int Tryz.underlying3 g0
  obtain ⟨k3,e3,_,_⟩:=DataW.trod_int Tryz.underlying3 g3
  obtain ⟨K,lk,ek,bk⟩:=Ybd Tryz.underlying34 Zks g1
  simp only [List.cons.injEq,and_true] at e0 e3
  subst e0 e3
  have hsz2:(DataW.weightsEach Tryz.prog [3,34,72,3] [y0.1,y1.1,y2.1,y3.1]).all (· ≤reachBytes)=true:=by
   rw [List.all_eq_true]
   intro m hm
   rw [decide_eq_true_iff]
   refine hw m ?_
   rw [hxy]
   simp only [DataW.weights,hu]
   rw [show (#[f0,f1,f2,f3]:Array Field).toList.map (·.type)=[3,34,72,3] by simp [t0,t1,t2,t3]]
   exact hm
  obtain ⟨zs,r1,l1⟩:=Ztg (d:=y2.1) (p:=y2.2) g2 hsz2 2 rfl rfl
  refine ⟨⟨k0,K,u2,zs,k3⟩,?_,⟨lk,bk⟩,r1,l1⟩
  have at_:∀i,(hi:i<cs.length)→cs.drop i=cs[i]::cs.drop (i+1):=fun i hi=>List.drop_eq_getElem_cons hi
  have g:∀i u,cs[i]?=some u→cs.drop i=u::cs.drop (i+1):=fun i u hu=>by
   obtain ⟨h1,h2⟩:=List.getElem?_eq_some_iff.1 hu
   rw [at_ i h1,h2]
  have d0:=g 0 _ b0
  have d2:=g 33 _ b2
  have d3:=g 34 _ b3
  have d6:cs.drop 35=[]:=List.drop_eq_nil_of_le (by omega)
  have d1:cs.drop 1=K.map (Value.int .u8)++cs.drop 33:=by
   have:=(List.take_append_drop 32 (cs.drop 1)).symm
   rw [ek,List.drop_drop] at this
   exact this
  show cs=apL k0 K u2 k3
  rw [List.drop_zero] at d0
  rw [d0,d1,d2,d3,d6]
  rfl
def ApAt (W:World) (v:Value) (qs:List Ap):Prop:=
 ∃a c,v=.slice a qs.length c∧(0<qs.length→∃b off,a=some ⟨b,off,none⟩∧∀i,i<qs.length→W.rangeAt b (off+i * 35) (apC (qs.getD i default)))∧∀i,i<qs.length→Key (qs.getD i default).K∧Reads W (qs.getD i default).v (qs.getD i default).bs∧(qs.getD i default).bs.length≤140737488355328-4096
theorem Yat {H:Type} {enc:TypeId×Value→H} {W:World} {base:Nat} {v:Value} {d:DataW H} {p:List MemPlace} (hv:Value.okWide Tryz.prog W .any base 22 v)
  (h:DataW.Trod enc Tryz.prog W 0 (fun _=>true) true 22 v d p) {ts:List TypeId} {ds:List (DataW H)} (hsz:(DataW.weightsEach Tryz.prog ts ds).all (· ≤reachBytes)=true) (j:Nat) (ht:ts[j]?=some 22) (hd:ds[j]?=some d):
  ∃qs,ApAt W v qs:=by
 obtain ⟨a,len,cap,rfl⟩:=okWide_slice Tryz.underlying22 hv
 obtain ⟨fuel,hf⟩:=h
 rcases Go.Deep.open_slice Tryz.underlying22 hf with ⟨hcs,hx⟩ | ⟨x,l,c,m,n,D,Pl,hcs,_,hl,hm,hmm,hx,hcell⟩
 ·simp [Value.cells] at hcs
  obtain ⟨rfl,rfl,rfl⟩:=hcs
  exact ⟨[],none,0,rfl,fun h=>by simp at h,fun i hi=>by simp at hi⟩
 ·simp [Value.cells] at hcs
  obtain ⟨rfl,rfl,rfl⟩:=hcs
  simp at hmm
  simp only [Prod.mk.injEq] at hx
  have hwt:∀i,i<len→∀q∈(D i).weights Tryz.prog 74,q≤reachBytes:=by
   intro i hi q hq
   have h1:=List.all_eq_true.1 hsz q (DataW.weights_mem_each ht hd q (by
    rw [hx.1]
    simp only [DataW.weights,Tryz.underlying22,List.mem_cons,List.mem_append]
    exact .inr (.inl (Zhj hq _ (List.mem_map.2 ⟨i,List.mem_range.2 hi,rfl⟩)))))
   simpa using h1
  have each:∀i,i<len→∃q:Ap,(∀k u,(apC q)[k]?=some u→W.cell? (x.add (i * 35+k))=some u)∧Key q.K∧Reads W q.v q.bs∧q.bs.length≤140737488355328-4096:=by
   intro i hi
   obtain ⟨cs',h1,h2⟩:=hcell i (by omega)
   rw [Zkv] at h1
   obtain ⟨_,hlen,hc⟩:=World.cells?_some h1
   obtain ⟨q,rfl,hk,hr,hl2⟩:=Zvs h2 (hwt i hi)
   refine ⟨q,fun k w hw=>?_,hk,hr,hl2⟩
   have hk2:=(List.getElem?_eq_some_iff.1 hw).1
   have hk3:k<35:=by rw [← hlen];exact hk2
   have h3:=hc k hk3
   rw [Go.Deep.add_add] at h3
   rw [h3]
   exact hw
  obtain ⟨q,hq⟩:=Go.Deep.choose_lt each
  have hget:∀i,i<len→((List.range len).map q).getD i default=q i:=fun i hi=>by simp [List.getD,hi]
  refine ⟨(List.range len).map q,some x,cap,by simp,fun hp=>?_,fun i hi=>?_⟩
  ·simp only [List.length_map,List.length_range] at hp
   obtain ⟨b,off,spot⟩:=x
   have hspot:spot=none:=by
    have hlen:=Zbm (q 0).k (q 0).K (q 0).v (q 0).h (hq 0 hp).2.1.1
    have:=World.cell?_spot ((hq 0 hp).1 0 _ (List.getElem?_eq_getElem (by unfold apC;omega)))
    simpa [Addr.add] using this
   subst hspot
   refine ⟨b,off,rfl,fun i hi k u hu=>?_⟩
   simp only [List.length_map,List.length_range] at hi
   rw [hget i hi] at hu
   have:=(hq i hi).1 k u hu
   rw [Addr.add_lit] at this
   rw [Nat.add_assoc]
   exact this
  ·simp only [List.length_map,List.length_range] at hi
   rw [hget i hi]
   exact (hq i hi).2
end Go.Proofs.YtgfdgjkbcdmboaaGreatDoor
