/- The document's store: is no slot free? -/
import Derived.Test.YtlclabbnpjobgaaGreatDoorAp33
namespace Go.Proofs.YtlclabbnpjobgaaGreatDoor
variable {S fr fr' p rest st:List Nat}
variable {b b5 c g i n room:Nat}
variable {cs cs':Lz}
variable {ss:List Sp}
variable {vf vf' vp:Value}
variable {w w' w1 w2 wr:World}
set_option maxHeartbeats 1000000
set_option maxRecDepth 20000
open Go.RowKit
theorem Znj (h:Rs w g vp vf room ss []) (b:Bool) (hb:b=decide (room≤ss.length)):Kc 171 #[.pointer (some ⟨g,0,none⟩)] w fun e w'=>e=.returned (.bool b)∧Kb w w':=by
 have c1:=h.c1;have c2:=h.c2;have c3:=h.c3;obtain ⟨a,c,rfl⟩:=Zj h.frs;obtain ⟨a2,c2',rfl⟩:=Zj h.sps;have hb2:decide ((room:Int)≤(ss.length:Int))=b:=by
  rw [hb]
  by_cases e:room≤ss.length
  ·simp [e]
  ·simp [e]
 clear h hb;go_enter Tryz.func171,Tryz.ntmps171
 go_wp2_with fail
 go_quiet (fail)
 go_wp2
 go_ret;exact ⟨by rw [← hb2];simp,below_drewN (Below.refl _ _) _⟩
def RT7 (w:World) (g:Nat) (S:List Nat) (room:Nat) (ss:List Sp) (fr:List Nat) (w':World):Prop:=∃vp vf,Rs w' g vp vf room ss fr∧Mod S w w'∧New S w (rsB g vp vf ss)
theorem Zme:∀(ss:List Sp),(∀s∈ss,s.key.length=32)→∀(i:Nat) (hi:i<ss.length) (j:Nat) (u:Value) (s':Sp),j<39→(sz7 ss[i]).set j u=sz7 s'→(ss.flatMap sz7).set (i * 39+j) u=(ss.set i s').flatMap sz7
 | [],_,i,hi,_,_,_,_,_=>by simp at hi
 | s::ss,h,0,_,j,u,s',hj,hv=>by
  have hl:=Zr s (h s (by simp));rw [List.flatMap_cons,Nat.zero_mul,Nat.zero_add,List.set_append_left _ _ (by omega),List.set_cons_zero,List.flatMap_cons];rw [show (sz7 s).set j u=sz7 s' from hv]
 | s::ss,h,i+1,hi,j,u,s',hj,hv=>by
  have hl:=Zr s (h s (by simp));rw [List.flatMap_cons,List.set_append_right _ _ (by rw [hl];omega),hl,show (i+1) * 39+j-39=i * 39+j by omega,List.set_cons_succ,List.flatMap_cons];rw [Zme ss (fun s hs=>h s (List.mem_cons_of_mem _ hs)) i (by simpa using hi) j u s' hj hv]
theorem Zmy (s:Sp) (h:s.key.length=32) (n:Nat):(sz7 s).set 37 (.int .i64 (n:Int))=sz7 { s with own:=n}:=by
 have hl:=Zab s.key s.val h;unfold sz7;simp only [List.set_cons_succ];rw [List.set_append_right _ _ (by omega),hl];rfl
theorem Ygd (s:Sp) (h:s.key.length=32) (n:Nat):(sz7 s).set 38 (.int .i64 (n:Int))=sz7 { s with sd:=n}:=by
 have hl:=Zab s.key s.val h;unfold sz7;simp only [List.set_cons_succ];rw [List.set_append_right _ _ (by omega),hl];rfl
theorem Zqv:(153:Nat)≠149:=by decide
theorem Zyh:(153:Nat)≠3:=by decide
theorem Ycx:(153:Nat)≠5:=by decide
theorem Zmx:(3:Nat)≠149:=by decide
theorem Ycw:(5:Nat)≠149:=by decide
theorem Zdl (ss:List Sp) (i j:Nat) (s:Sp) (hi:i<ss.length):spAt (ss.set i s) j=if j=i then s else spAt ss j:=by
 unfold spAt;rw [List.getElem?_set]
 by_cases e:i=j
 ·subst e;simp [hi]
 ·rw [if_neg e,if_neg (fun q=>e q.symm)]
theorem Zbw {s t:Sp} (h:t∈ss.set i s):t=s∨t∈ss:=(List.mem_or_eq_of_mem_set h).symm
theorem Rs.setF (h:Rs w g (.slice (some ⟨b,0,none⟩) n c) vf room ss fr) (i:Nat) (hi:i<ss.length) (j:Nat) (hj:j<39) (u:Value) (s':Sp) (hs:(sz7 (spAt ss i)).set j u=sz7 s') (h1:s'.key=(spAt ss i).key) (h2:s'.val=(spAt ss i).val) (h3:s'.bs=(spAt ss i).bs) (h4:s'.kind≠0):Rs (w.setCell ⟨b,i * 39+j,none⟩ u) g (.slice (some ⟨b,0,none⟩) n c) vf room (ss.set i s') fr:=by
 have m:Mod [b] w (w.setCell ⟨b,i * 39+j,none⟩ u):=Mod.setCell _ _ _ _ (by simp);obtain ⟨_,_,e⟩:=Zj h.sps;injection e with _ e _;subst e;have hat:spAt ss i=ss[i]:=by simp [spAt,hi]
 have hmem:spAt ss i∈ss:=by rw [hat];exact List.getElem_mem hi
 obtain ⟨b1,_,_,hb1,_⟩:=Zdq h.sps b rfl;have hv:∀s∈ss,∃sp,Own 0 (w.setCell ⟨b,i * 39+j,none⟩ u) s.val s.bs sp:=fun s hs=>by
  obtain ⟨sp,ho⟩:=h.vals s hs;refine ⟨sp,ho.mod m (fun k hk e=>?_)⟩;obtain rfl:k=b:=by simpa using e
  obtain ⟨_,hb2⟩:=ho.blk k hk;exact hb1.ne hb2 Ycx rfl
 refine ⟨h.blk.mod m ?_,?_,Zbd h.frs m (fun k hk e=>?_),fun s hs=>?_,fun s hs=>?_,fun s hs hk=>?_,by rw [List.length_set];exact h.few⟩
 ·intro e;obtain rfl:g=b:=by simpa using e
  exact hb1.ne h.blk Zqv rfl
 ·have h0:=Zib h.sps (i * 39+j) u;rw [Zme ss (fun s hs=>(h.ok s hs).hk.1) i hi j u s' hj (by rw [← hat];exact hs)] at h0;rw [List.length_set];exact h0
 ·obtain rfl:k=b:=by simpa using e
  exact Zic h.sps h.frs Zyh k rfl hk
 ·rcases Zbw hs with rfl | hs
  ·obtain ⟨sp,ho⟩:=hv _ hmem;exact ⟨sp,by rw [h2,h3];exact ho⟩
  ·exact hv s hs
 ·rcases Zbw hs with rfl | hs
  ·have:=h.ok _ hmem;exact ⟨by rw [h1];exact this.hk,by rw [h2,h3];exact this.vs⟩
  ·exact h.ok s hs
 ·rcases Zbw hs with rfl | hs
  ·exact absurd hk h4
  ·exact h.zero s hs hk
theorem Zke {s':Sp} (hi:i<ss.length) (h2:s'.val=(spAt ss i).val):∀k∈rsB g vp vf (ss.set i s'),k∈rsB g vp vf ss:=fun k hk=>by
 rcases Zq.1 hk with h | h | h | ⟨s,hs,h⟩
 ·exact Zq.2 (.inl h)
 ·exact Zq.2 (.inr (.inl h))
 ·exact Zq.2 (.inr (.inr (.inl h)))
 ·refine Zq.2 (.inr (.inr (.inr ?_)));rcases Zbw hs with rfl | hs
  ·exact ⟨spAt ss i,by simp [spAt,hi],by rw [← h2];exact h⟩
  ·exact ⟨s,hs,h⟩
theorem Rs.num (h:Rs w g vp vf room ss fr) (i:Nat) (hi:i<ss.length):∃b c,vp=.slice (some ⟨b,0,none⟩) ss.length c∧w.cell? ⟨b,i * 39+37,none⟩=some (.int .i64 ((spAt ss i).own:Int))∧w.cell? ⟨b,i * 39+38,none⟩=some (.int .i64 ((spAt ss i).sd:Int))∧(∀j,w.frozen? ⟨b,j,none⟩=false)∧(0:Int)≤(i:Int)∧(i:Int)<(ss.length:Int)∧wrap64 (i:Int)=(i:Int):=by
 have hf:=h.few;obtain ⟨b,c,rfl,hc⟩:=Zat h.sps (by omega);have hr:=h.range i hi;have ha:=Zbq (spAt ss i) (Zch h i).hk.1;exact ⟨b,c,rfl,hr 37 _ ha.2.2.2.2.2.1,hr 38 _ ha.2.2.2.2.2.2,fun j=>Zew h.sps j,by omega,by omega,Go.IntWalk.wrap64_in _ (by omega)⟩
theorem Zrh (h:Rs w g vp vf room ss fr) (q:Int) (hk:(sat ss q).kind=0):Kc 54 #[.pointer (some ⟨g,0,none⟩),.int .i64 q] w fun e w'=>e=.returned (.int .i64 7)∧w'=w:=by
 have c0:=h.c0;have HH:=Za (Zbr h q);rw [show decide ((sat ss q).kind≠0)=false by simp [hk]] at HH;clear h hk;go_enter Tryz.func54,Tryz.ntmps54
 go_wp2_with (first
  |(go_at_call 88;refine (Zz g _ c0).mono ?_;rintro e w' ⟨rfl,hx⟩;rw [hx];clear hx w')
  |(go_at_call 89;refine HH.out.mono ?_;rintro e w' ⟨rfl,hx⟩;rw [hx];clear hx w'))
 go_ret;exact ⟨rfl,rfl⟩
theorem Zeb (ss:List Sp) (i:Nat):sat ss ((i:Int)+1)=spAt ss i:=by
 unfold sat;rw [if_pos (by omega),show ((i:Int)+1-1).toNat=i by omega]
theorem Zgd (h:(spAt ss i).kind≠0):i<ss.length:=by
 apply Nat.lt_of_not_le;intro hn;apply h;unfold spAt;rw [List.getElem?_eq_none hn];rfl
theorem Znh (h:Rs w g vp vf room ss fr) (i:Nat) (hk:(spAt ss i).kind≠0) (hm:(spAt ss i).own+(spAt ss i).sd=1073741824):Kc 54 #[.pointer (some ⟨g,0,none⟩),.int .i64 ((i:Int)+1)] w fun e w'=>e=.returned (.int .i64 4)∧Kb w w':=by
 have c0:=h.c0;have HH:=Za (Zbr h ((i:Int)+1));have HC:=Za (Zuq h ((i:Int)+1) (by rw [Zeb];omega));rw [Zeb] at HH HC;rw [show decide ((spAt ss i).kind≠0)=true by simp [hk]] at HH;rw [hm] at HC;clear h hk hm;generalize (i:Int)+1=q at *;go_enter Tryz.func54,Tryz.ntmps54
 go_wp2_with (first
  |(go_at_call 88;refine (Zz g _ c0).mono ?_;rintro e w' ⟨rfl,hx⟩;rw [hx];clear hx w')
  |(go_at_call 89;refine HH.out.mono ?_;rintro e w' ⟨rfl,hx⟩;rw [hx];clear hx w')
  |(go_at_call 90;refine HC.out.mono ?_;rintro e w1 ⟨rfl,b1⟩))
 go_ret;exact ⟨rfl,b1⟩
theorem Zul (h:Rs w g vp vf room ss fr) (i:Nat) (hk:(spAt ss i).kind≠0) (hm:(spAt ss i).own+(spAt ss i).sd<1073741824):Kc 54 #[.pointer (some ⟨g,0,none⟩),.int .i64 ((i:Int)+1)] w fun e w'=>e=.returned (.int .i64 0)∧RT7 w g (rsB g vp vf ss) room (ss.set i { spAt ss i with own:=(spAt ss i).own+1}) fr w':=by
 have c0:=h.c0;have hil:=Zgd hk;have HH:=Za (Zbr h ((i:Int)+1));have HC:=Za (Zuq h ((i:Int)+1) (by rw [Zeb];omega));rw [Zeb] at HH HC;rw [show decide ((spAt ss i).kind≠0)=true by simp [hk]] at HH;have HS:Hid (∀w',Kb w w'→Rs w' g vp vf room ss fr):=fun w' hb=>h.grow hb
 have HK:=Za hk;have HIL:=Za hil;obtain ⟨b,c,rfl,-⟩:=h.num i hil;obtain ⟨q,hq⟩:∃q:Int,q=(i:Int)+1:=⟨_,rfl⟩;rw [← hq] at HH HC;rw [← hq];have h3:q-1=(i:Int):=by omega
 have hc:(((spAt ss i).own+(spAt ss i).sd:Nat):Int)<1073741824:=by omega
 obtain ⟨z,hz⟩:∃z:Int,z=(((spAt ss i).own+(spAt ss i).sd:Nat):Int):=⟨_,rfl⟩;rw [← hz] at HC hc;obtain ⟨o,ho⟩:∃o,o=(spAt ss i).own:=⟨_,rfl⟩;have HO:=Za ho;have hw1:wrap64 ((o:Int)+1)=(o:Int)+1:=Go.IntWalk.wrap64_in _ (by omega);clear h hk hil hq hz hm;clear ho;go_enter Tryz.func54,Tryz.ntmps54
 go_wp2_with (first
  |(go_at_call 88;refine (Zz g _ c0).mono ?_;rintro e w' ⟨rfl,hx⟩;rw [hx];clear hx w')
  |(go_at_call 89;refine HH.out.mono ?_;rintro e w' ⟨rfl,hx⟩;rw [hx];clear hx w')
  |(go_at_call 90;refine HC.out.mono ?_;rintro e w1 ⟨rfl,b1⟩;have HR1:=Za (HS.out _ b1);have c2:=HR1.out.c2;obtain ⟨b9,c9,e9,k1,k2,k3,j0,j1,hw⟩:=HR1.out.num i HIL.out;injection e9 with e91 _ e93;injection e91 with e91;injection e91 with e91;subst e91;subst e93;rw [← HO.out] at k1;have k4:=k3 (i * 39+37);have HB1:=Za b1;clear b1 k2 k3))
 go_ret;have hR:=HR1.out.setF i HIL.out 37 (by omega) (.int .i64 ((o+1:Nat):Int)) { spAt ss i with own:=(spAt ss i).own+1} (by rw [HO.out];exact Zmy _ (Zch HR1.out i).hk.1 _) rfl rfl rfl HK.out;rw [show ((o+1:Nat):Int)=(o:Int)+1 from rfl] at hR;refine ⟨rfl,_,_,hR,(Mod.of_below HB1.out _).trans' (Mod.setCell _ _ _ _ (Zq.2 (.inr (.inl rfl)))),fun k hk=>.inl (Zke (s':={ spAt ss i with own:=(spAt ss i).own+1}) HIL.out rfl k hk)⟩
theorem Rs.setOwn (h:Rs w g (.slice (some ⟨b,0,none⟩) n c) vf room ss fr) (i:Nat) (hk:(spAt ss i).kind≠0) (v:Nat):Rs (w.setCell ⟨b,i * 39+37,none⟩ (.int .i64 (v:Int))) g (.slice (some ⟨b,0,none⟩) n c) vf room (ss.set i { spAt ss i with own:=v}) fr:=h.setF i (Zgd hk) 37 (by omega) (.int .i64 (v:Int)) { spAt ss i with own:=v} (Zmy _ (Zch h i).hk.1 _) rfl rfl rfl hk
theorem Rs.setSd (h:Rs w g (.slice (some ⟨b,0,none⟩) n c) vf room ss fr) (i:Nat) (hk:(spAt ss i).kind≠0) (v:Nat):Rs (w.setCell ⟨b,i * 39+38,none⟩ (.int .i64 (v:Int))) g (.slice (some ⟨b,0,none⟩) n c) vf room (ss.set i { spAt ss i with sd:=v}) fr:=h.setF i (Zgd hk) 38 (by omega) (.int .i64 (v:Int)) { spAt ss i with sd:=v} (Ygd _ (Zch h i).hk.1 _) rfl rfl rfl hk
theorem Zng (g:Nat) (w:World):Kc 197 #[.pointer (some ⟨g,0,none⟩),.int .i64 0] w fun e w'=>e=.returned (.tuple #[])∧w'=w:=by
 go_enter Tryz.func197,Tryz.ntmps197
 go_wp2
 refine bodyPost_end (results_none rfl _ _ _) rfl ?_;exact ⟨rfl,rfl⟩
theorem Zug (h:Rs w g vp vf room ss fr) (i:Nat) (hk:(spAt ss i).kind≠0) (p:Nat) (hp:(spAt ss i).own=p+1) (hm:(spAt ss i).own+(spAt ss i).sd≤1073741824):Kc 197 #[.pointer (some ⟨g,0,none⟩),.int .i64 ((i:Int)+1)] w fun e w'=>e=.returned (.tuple #[])∧RT7 w g (rsB g vp vf ss) room (ss.set i { spAt ss i with own:=p,sd:=(spAt ss i).sd+1}) fr w':=by
 have hil:=Zgd hk;obtain ⟨b,c,rfl,k1,k2,k3,j0,j1,hw⟩:=h.num i hil;have hR:=h.setOwn i hk p;have hat:spAt (ss.set i { spAt ss i with own:=p}) i= { spAt ss i with own:=p}:=by rw [Zdl _ _ _ _ hil,if_pos rfl]
 have hR2:=hR.setSd i (by rw [hat];exact hk) ((spAt ss i).sd+1);rw [hat,List.set_set] at hR2;obtain ⟨b9,c9,e9,l1,l2,l3,_,_,_⟩:=hR.num i (by rw [List.length_set];exact hil);rw [List.length_set] at e9;injection e9 with e91 _ e93;injection e91 with e91;injection e91 with e91;subst e91;subst e93;rw [hat] at l2;simp only at l2;have c2:=h.c2;have d2:=hR.c2;have k4:=k3 (i * 39+37);have l4:=l3 (i * 39+38);rw [hp] at k1;obtain ⟨o,ho⟩:∃o,o=(spAt ss i).sd:=⟨_,rfl⟩;rw [← ho] at l2 hR2;rw [← ho];have hw1:wrap64 ((o:Int)+1)=(o:Int)+1:=Go.IntWalk.wrap64_in _ (by omega);have hw2:wrap64 (p:Int)=(p:Int):=Go.IntWalk.wrap64_in _ (by omega);have HR2:=Za hR2;have HIL:=Za hil;obtain ⟨q,hq⟩:∃q:Int,q=(i:Int)+1:=⟨_,rfl⟩;rw [← hq];have h3:q-1=(i:Int):=by omega
 have h0:0<q:=by omega
 clear h hk hil hq hm hp ho hR hR2 k2 k3 l1 l3 hat;go_enter Tryz.func197,Tryz.ntmps197
 go_wp2
 refine bodyPost_end (results_none rfl _ _ _) rfl ?_;have hX:=HR2.out;rw [show ((o+1:Nat):Int)=(o:Int)+1 from rfl] at hX;refine ⟨rfl,_,_,hX,(Mod.setCell _ _ _ _ (Zq.2 (.inr (.inl rfl)))).trans' (Mod.setCell _ _ _ _ (Zq.2 (.inr (.inl rfl)))),fun k hk=>.inl (Zke (s':={ spAt ss i with own:=p,sd:=o+1}) HIL.out rfl k hk)⟩
structure Rel7 (cs:Lz) (p q:List Nat) (ss:List Sp):Prop where
 len:ss.length=cs.length
 kind:∀i,(spAt ss i).kind=(ce cs i).kind
 d:∀i,(spAt ss i).d=(ce cs i).dp
 key:∀i,(ce cs i).kind=1→(spAt ss i).key=(ce cs i).key
 bs:∀i,(spAt ss i).bs=(ce cs i).bs
 l:∀i,(spAt ss i).l=(ce cs i).l
 r:∀i,(spAt ss i).r=(ce cs i).r
 own:∀i,(spAt ss i).own=Go.Proofs.YtlclabbnpjobgaaGreatDoor.own cs p i
 sd:∀i,(spAt ss i).sd=(ce cs i).ab+q.count (i+1)
theorem Run.split (h:Run cs fr st cs' fr' n):∀a b,st=a++b→∃cs1 fr1 n1 n2,Run cs fr a cs1 fr1 n1∧Run cs1 fr1 b cs' fr' n2∧n=n1+n2:=by
 induction h with
 | done cs fr=>
  intro a b e;obtain ⟨rfl,rfl⟩:=List.append_eq_nil_iff.1 e.symm;exact ⟨_,_,0,0,Run.done _ _,Run.done _ _,rfl⟩
 | keep hc hr ih=>
  intro a b e;cases a with
  | nil=>
   rw [List.nil_append] at e;subst e;exact ⟨_,_,0,_,Run.done _ _,Run.keep hc hr,by omega⟩
  | cons x a=>
   rw [List.cons_append] at e;injection e with e1 e2;subst e1;obtain ⟨cs1,fr1,n1,n2,h1,h2,h3⟩:=ih a b e2;exact ⟨cs1,fr1,n1,n2,Run.keep hc h1,h2,h3⟩
 | free hc hr ih=>
  intro a b e;cases a with
  | nil=>
   rw [List.nil_append] at e;subst e;exact ⟨_,_,0,_,Run.done _ _,Run.free hc hr,by omega⟩
  | cons x a=>
   rw [List.cons_append] at e;injection e with e1 e2;subst e1;subst e2;obtain ⟨cs1,fr1,n1,n2,h1,h2,h3⟩:=ih (ne0 (ce _ _).l++(ne0 (ce _ _).r++a)) b (by simp only [List.append_assoc];rfl);exact ⟨cs1,fr1,n1+1,n2,Run.free hc h1,h2,by omega⟩
theorem Rel7.inn {q:List Nat} (h:Rel7 cs p q ss) {pend:List Nat} (w:Wf cs pend) (i:Nat):(spAt ss i).kind≠0↔0<cc cs i:=by
 rw [h.kind i];constructor
 ·intro hk;apply Nat.pos_of_ne_zero;intro e;rw [w.zero i e] at hk;exact hk rfl
 ·intro hc;rcases w.kinds i hc with e | e <;> rw [e] <;> decide
theorem Rel7.less (h:Rel7 cs ((i+1)::rest) rest ss) (w:Wf cs ((i+1)::rest)) (hc:1<cc cs i):Rel7 (lessC cs i) rest rest ss∧0<(spAt ss i).own+(spAt ss i).sd:=by
 have s:=Zfj w hc;have hl:=Zaw (cs:=cs) (i:=i) (by omega);have hce:∀j,ce (lessC cs i) j=ce cs j:=fun j=>by
  unfold lessC;rw [Zcm cs i j _ hl];split
  ·next e=>rw [e]
  ·rfl
 refine ⟨⟨by rw [s.len];exact h.len,fun j=>by rw [hce];exact h.kind j,fun j=>by rw [hce];exact h.d j,fun j=>by rw [hce];exact h.key j,fun j=>by rw [hce];exact h.bs j,fun j=>by rw [hce];exact h.l j,fun j=>by rw [hce];exact h.r j,fun j=>by rw [s.own];exact h.own j,fun j=>by rw [hce];exact h.sd j⟩,?_⟩;have h1:=w.own i;rw [List.count_cons_self] at h1;rw [h.own,h.sd];omega
theorem Rel7.free (h:Rel7 cs ((i+1)::rest) rest ss) (w:Wf cs ((i+1)::rest)) (hc:cc cs i=1):Rel7 (freeC cs i) (ne0 (ce cs i).l++(ne0 (ce cs i).r++rest)) (ne0 (ce cs i).l++(ne0 (ce cs i).r++rest)) (ss.set i zs7)∧(spAt ss i).own+(spAt ss i).sd=0:=by
 have s:=Zdz w hc;have hl:=Zaw (cs:=cs) (i:=i) (by omega);have hls:i<ss.length:=by rw [h.len];exact hl
 have h1:=w.own i;rw [List.count_cons_self] at h1;have hn:=w.tr i (by omega);obtain ⟨nl,nr⟩:=hn.side_ne rfl;obtain ⟨bl,br⟩:=hn.side_lt;have a1:=Zfs (cs.set i (0,zc)) (ce cs i).r;have a2:=Zfs (dnA (cs.set i (0,zc)) (ce cs i).r) (ce cs i).l;have hcore:∀j,Core (if j=i then zc else ce cs j) (ce (freeC cs i) j):=fun j=>by
  have e:ce (cs.set i (0,zc)) j=if j=i then zc else ce cs j:=Zcm cs i j _ hl
  rw [← e];exact (a1.core j).trans (a2.core j)
 have hpc:∀j,(ne0 (ce cs i).l++(ne0 (ce cs i).r++rest)).count (j+1)=(if (ce cs i).l=j+1 then 1 else 0)+((if (ce cs i).r=j+1 then 1 else 0)+rest.count (j+1)):=fun j=>by rw [List.count_append,List.count_append,Zfn,Zfn]
 have aa:AbOf (cs.set i (0,zc)) (freeC cs i):=a1.trans a2;have hce:∀j,ce (cs.set i (0,zc)) j=if j=i then zc else ce cs j:=fun j=>Zcm cs i j _ hl
 have hab:∀j,(ce (freeC cs i) j).ab=(if j=i then 0 else (ce cs j).ab)-(if (ce cs i).r=j+1 then 1 else 0)-(if (ce cs i).l=j+1 then 1 else 0):=fun j=>by
  unfold freeC;rw [Zmi _ _ _ (by rw [a1.len,List.length_set];exact bl),Zmi _ _ _ (by rw [List.length_set];exact br),hce];split
  ·rfl
  ·rfl
 have hns:∀j,ns (freeC cs i) j+((if (ce cs i).l=j+1 then 1 else 0)+(if (ce cs i).r=j+1 then 1 else 0))=ns cs j:=fun j=>by
  have h1:=Zhw cs j i (0,zc) hl;have h2:con j (cc cs i,ce cs i)=(if (ce cs i).l=j+1 then 1 else 0)+(if (ce cs i).r=j+1 then 1 else 0):=by simp [con,hc]
  have h3:con j (0,zc)=0:=rfl;have h4:=aa.ns j;omega
 have hsp:∀j,spAt (ss.set i zs7) j=if j=i then zs7 else spAt ss j:=fun j=>Zdl ss i j zs7 hls
 have hF:∀ {α:Type} (f:Sp→α) (k:Ce→α),(∀c n,k { c with ab:=n}=k c)→f zs7=k zc→(∀j,f (spAt ss j)=k (ce cs j))→∀j,f (spAt (ss.set i zs7) j)=k (ce (freeC cs i) j):=fun f k hab hz hs j=>by
  rw [hsp,hcore j,hab];split
  ·exact hz
  ·exact hs j
 refine ⟨⟨by rw [List.length_set,s.len];exact h.len,hF (·.kind) (·.kind) (fun _ _=>rfl) rfl h.kind,hF (·.d) (·.dp) (fun _ _=>rfl) rfl h.d,fun j=>?_,hF (·.bs) (·.bs) (fun _ _=>rfl) rfl h.bs,hF (·.l) (·.l) (fun _ _=>rfl) rfl h.l,hF (·.r) (·.r) (fun _ _=>rfl) rfl h.r,fun j=>?_,fun j=>?_⟩,?_⟩
 ·rw [hsp,hcore j];split
  ·intro e;exact absurd e (show ¬(zc.kind=1) by decide)
  ·exact h.key j
 ·rw [hsp,s.own,← h.own];split
  ·next e=>
   rw [e,h.own];show 0=_;omega
  ·rfl
 ·rw [hsp,hpc,hab];have h2:=hns j;have h3:=w.ab j;split
  ·next e=>
   subst e;rw [if_neg nl,if_neg nr];show 0=_;omega
  ·rw [h.sd];omega
 ·rw [h.own,h.sd];omega
theorem Rel7.side (h:Rel7 cs ((i+1)::rest) ((i+1)::rest) ss) (hi:i<ss.length):∃n,(spAt ss i).sd=n+1∧Rel7 cs ((i+1)::rest) rest (ss.set i { spAt ss i with sd:=n}):=by
 have h1:=h.sd i;rw [List.count_cons_self] at h1;have hsp:=fun j=>Zdl ss i j { spAt ss i with sd:=(ce cs i).ab+rest.count (i+1)} hi
 refine ⟨(ce cs i).ab+rest.count (i+1),by omega,?_⟩;have hF:∀ {α:Type} (f:Sp→α) (k:Nat→α),(∀c n,f { c with sd:=n}=f c)→(∀j,f (spAt ss j)=k j)→∀j,f (spAt (ss.set i { spAt ss i with sd:=(ce cs i).ab+rest.count (i+1)}) j)=k j:=fun f k hab hs j=>by
  rw [hsp];split
  ·next e=>rw [hab,e];exact hs i
  ·exact hs j
 refine ⟨by rw [List.length_set];exact h.len,hF (·.kind) _ (fun _ _=>rfl) h.kind,hF (·.d) _ (fun _ _=>rfl) h.d,fun j=>?_,hF (·.bs) _ (fun _ _=>rfl) h.bs,hF (·.l) _ (fun _ _=>rfl) h.l,hF (·.r) _ (fun _ _=>rfl) h.r,hF (·.own) _ (fun _ _=>rfl) h.own,fun j=>?_⟩
 ·rw [hsp];split
  ·next e=>rw [e];exact h.key i
  ·exact h.key j
 ·rw [hsp];split
  ·next e=>rw [e]
  ·next e=>
   have:=h.sd j;rw [List.count_cons_of_ne (by omega)] at this;exact this
theorem Rel7.hold (h:Rel7 cs [] [] ss) (w:Wf cs []) (ho:0<Go.Proofs.YtlclabbnpjobgaaGreatDoor.own cs [] i) (hi:i<ss.length):∃n,(spAt ss i).own=n+1∧Rel7 cs [i+1] [] (ss.set i { spAt ss i with own:=n}):=by
 have h1:=h.own i;have hsp:=fun j=>Zdl ss i j { spAt ss i with own:=Go.Proofs.YtlclabbnpjobgaaGreatDoor.own cs [] i-1} hi
 refine ⟨Go.Proofs.YtlclabbnpjobgaaGreatDoor.own cs [] i-1,by omega,?_⟩;have hF:∀ {α:Type} (f:Sp→α) (k:Nat→α),(∀c n,f { c with own:=n}=f c)→(∀j,f (spAt ss j)=k j)→∀j,f (spAt (ss.set i { spAt ss i with own:=Go.Proofs.YtlclabbnpjobgaaGreatDoor.own cs [] i-1}) j)=k j:=fun f k hab hs j=>by
  rw [hsp];split
  ·next e=>rw [hab,e];exact hs i
  ·exact hs j
 refine ⟨by rw [List.length_set];exact h.len,hF (·.kind) _ (fun _ _=>rfl) h.kind,hF (·.d) _ (fun _ _=>rfl) h.d,fun j=>?_,hF (·.bs) _ (fun _ _=>rfl) h.bs,hF (·.l) _ (fun _ _=>rfl) h.l,hF (·.r) _ (fun _ _=>rfl) h.r,fun j=>?_,hF (·.sd) _ (fun _ _=>rfl) h.sd⟩
 ·rw [hsp];split
  ·next e=>rw [e];exact h.key i
  ·exact h.key j
 ·rw [hsp];have h2:=w.own j;unfold Go.Proofs.YtlclabbnpjobgaaGreatDoor.own at h2 ⊢;split
  ·next e=>
   subst e;rw [List.count_cons_self];rw [List.count_nil] at h2 ⊢;show _-_-1=_;omega
  ·next e=>
   rw [List.count_cons_of_ne (by omega)];exact h.own j
theorem Zwn (ss:List Sp) (hk:∀s∈ss,s.key.length=32) (i:Nat) (hi:i<ss.length) (s':Sp) (h':s'.key.length=32):setL (ss.flatMap sz7) (i * 39) (sz7 s')=(ss.set i s').flatMap sz7:=by
 have e:ss=ss.take i++ss[i]::ss.drop (i+1):=by
  rw [List.getElem_cons_drop,List.take_append_drop]
 have hp:((ss.take i).flatMap sz7).length=i * 39:=by
  have:∀l:List Sp,(∀s∈l,s.key.length=32)→(l.flatMap sz7).length=l.length * 39:=fun l=>by
   induction l with
   | nil=>intro _;rfl
   | cons s l ih=>
    intro h;rw [List.flatMap_cons,List.length_append,Zr s (h s (by simp)),ih (fun t ht=>h t (List.mem_cons_of_mem _ ht)),List.length_cons];omega
  rw [this _ (fun s hs=>hk s (List.mem_of_mem_take hs)),List.length_take,Nat.min_eq_left (by omega)]
 have e2:ss.set i s'=ss.take i++s'::ss.drop (i+1):=by
  rw [List.set_eq_take_append_cons_drop,if_pos hi]
 have e3:ss.flatMap sz7=(ss.take i).flatMap sz7++(sz7 ss[i]++(ss.drop (i+1)).flatMap sz7):=by
  conv=>lhs;rw [e]
  rw [List.flatMap_append,List.flatMap_cons]
 rw [e2,e3,← hp,Zgz _ _ _ _ (by rw [Zr _ (hk _ (List.getElem_mem hi)),Zr _ h']),List.flatMap_append,List.flatMap_cons]
theorem Rs.putS (h:Rs w g (.slice (some ⟨b,0,none⟩) n c) vf room ss fr) (i:Nat) (hi:i<ss.length) (s':Sp) (ok:SpOk s') (hz:s'.kind=0→s'=zs7) (hv:∃sp,Own 0 w s'.val s'.bs sp) (hl:Lst w' 153 39 (.slice (some ⟨b,0,none⟩) n c) n (setL (ss.flatMap sz7) (i * 39) (sz7 s'))) (m:Mod [b] w w'):Rs w' g (.slice (some ⟨b,0,none⟩) n c) vf room (ss.set i s') fr:=by
 obtain ⟨_,_,e⟩:=Zj h.sps;injection e with _ e _;subst e;obtain ⟨b1,_,_,hb1,_⟩:=Zdq h.sps b rfl;have hvv:∀(v:Value) (zs:Lq),(∃sp,Own 0 w v zs sp)→∃sp,Own 0 w' v zs sp:=fun v zs ⟨sp,ho⟩=>by
  refine ⟨sp,ho.mod m (fun k hk e=>?_)⟩;obtain rfl:k=b:=by simpa using e
  obtain ⟨_,hb2⟩:=ho.blk k hk;exact hb1.ne hb2 Ycx rfl
 refine ⟨h.blk.mod m ?_,?_,Zbd h.frs m (fun k hk e=>?_),fun s hs=>?_,fun s hs=>?_,fun s hs hk=>?_,by rw [List.length_set];exact h.few⟩
 ·intro e;obtain rfl:g=b:=by simpa using e
  exact hb1.ne h.blk Zqv rfl
 ·rw [Zwn ss (fun s hs=>(h.ok s hs).hk.1) i hi s' ok.hk.1] at hl;rw [List.length_set];exact hl
 ·obtain rfl:k=b:=by simpa using e
  exact Zic h.sps h.frs Zyh k rfl hk
 ·rcases Zbw hs with rfl | hs
  ·exact hvv _ _ hv
  ·exact hvv _ _ (h.vals s hs)
 ·rcases Zbw hs with rfl | hs
  ·exact ok
  ·exact h.ok s hs
 ·rcases Zbw hs with rfl | hs
  ·exact hz hk
  ·exact h.zero s hs hk
theorem Rs.newF (h:Rs w g vp vf room ss fr) (hl:Lst w1 3 1 vf' fr'.length (nats fr')) (hg:w.grownBy w1 vf.ownBlock) (hs:w2=w1.setCell ⟨g,3,none⟩ vf') (h6:fr'.length≤65536):Rs w2 g vp vf' room ss fr'∧Mod (g::vf.ownBlock.toList) w w2:=by
 have m1:Mod vf.ownBlock.toList w w1:=Mod.of_grown hg (fun k hk=>by simp [hk]);have hS:∀k∈vf.ownBlock.toList,vf.ownBlock=some k:=fun k hk=>by simpa using hk
 have hb1:Blk w1 g 149 #[.bool true,.int .i64 (room:Int),vp,vf]:=h.blk.mod m1 (fun e=>Zm h.frs h.blk Zmx (hS g e));have m2:Mod [g] w1 w2:=by rw [hs];exact Mod.setCell _ _ _ _ (by simp)
 have mm:Mod (g::vf.ownBlock.toList) w w2:=(m1.mono (fun k hk=>List.mem_cons_of_mem _ hk)).trans' (m2.mono (fun k hk=>by simp at hk;subst hk;exact List.mem_cons_self ..));have hne:vf'.ownBlock≠some g:=fun e=>by
  exact Zm hl hb1 Zmx e
 refine ⟨⟨?_,Zbd h.sps mm (fun k hk e=>?_),Zbd hl m2 (fun k hk e=>?_),fun s hs'=>?_,h.ok,h.zero,h.few.1,h6⟩,mm⟩
 ·have:=hb1.set 3 vf';rw [hs];exact this
 ·rcases List.mem_cons.1 e with rfl | e
  ·exact Zm h.sps h.blk Zqv hk
  ·exact Zic h.sps h.frs Zyh k hk (hS k e)
 ·obtain rfl:k=g:=by simpa using e
  exact hne hk
 ·obtain ⟨sp,ho⟩:=h.vals s hs';refine ⟨sp,ho.mod mm (fun k hk e=>?_)⟩;obtain ⟨_,hb2⟩:=ho.blk k hk;rcases List.mem_cons.1 e with rfl | e
  ·exact hb2.ne h.blk Ycw rfl
  ·exact Zm h.frs hb2 Ygb.symm (hS k e)
def Rq (w:World) (S:List Nat) (g room:Nat) (ss:List Sp) (fr:List Nat) (b5:Nat) (X:Array Value) (wr:World):Prop:=∃vp vf,Rs wr g vp vf room ss fr∧Mod S w wr∧New S w (rsB g vp vf ss)∧Blk wr b5 153 X∧b5 ∉ rsB g vp vf ss
theorem Rq.out {X:Array Value} (h:Rq w S g room ss fr b5 X wr):RT7 w g S room ss fr wr:=by
 obtain ⟨vp,vf,h1,h2,h3,_⟩:=h;exact ⟨vp,vf,h1,h2,h3⟩
theorem Rq.use {X:Array Value} {f:FuncId} {args:Array Value} {E:Ending} {P:List Sp→Prop} (h:Rq w S g room ss fr b5 X wr) (hc:∀vp vf,Rs wr g vp vf room ss fr→Kc f args wr fun e w'=>e=E∧∃ss',P ss'∧RT7 wr g (rsB g vp vf ss) room ss' fr' w'):Kc f args wr fun e w'=>e=E∧∃ss',P ss'∧Rq w S g room ss' fr' b5 X w':=by
 obtain ⟨vp,vf,h1,h2,h3,h4,h5⟩:=h;refine (hc vp vf h1).mono ?_;rintro e w' ⟨rfl,ss',hP,vp',vf',k1,k2,k3⟩;refine ⟨rfl,ss',hP,vp',vf',k1,h2.trans h3 k2,h3.trans h2.size k3,h4.mod k2 h5,fun e=>?_⟩;rcases k3 b5 e with e | e
 ·exact h5 e
 ·have:=h4.lt;omega
theorem Znl (h:Rs w g vp vf room ss fr) (i:Nat) (hi:i<ss.length) (hm:0<(spAt ss i).own+(spAt ss i).sd) (hM:(spAt ss i).own+(spAt ss i).sd≤1073741824):Kc 95 #[.pointer (some ⟨g,0,none⟩),.int .i64 ((i:Int)+1)] w fun e w'=>e=.returned (.int .i64 0)∧Kb w w':=by
 have c2:=h.c2;have ok:=Zch h i;obtain ⟨b,c,rfl,k1,k2,k3,j0,j1,hw⟩:=h.num i hi;have HR:=Za (h.range i hi);have HL:Hid ((Tryz.prog.info? 153).map (·.size)=some (sz7 (spAt ss i)).length):=by
  show _=_;rw [Zr _ ok.hk.1];exact Zbk
 have HL2:Hid ((Tryz.prog.info? 153).map (·.size)=some (sz7 (spAt ss i)).toArray.size):=HL.out;have HL3:Hid ((sz7 zs7).toArray.size=(sz7 (spAt ss i)).toArray.size):=by
  show (sz7 zs7).length=(sz7 (spAt ss i)).length;rw [Zr _ ok.hk.1];rfl
 have H1:=Za (Zca ok);have HZ:=Za Zcp;have HAT:=Za (Zbq (spAt ss i) ok.hk.1);have hx:wrap64 (((spAt ss i).own:Int)+((spAt ss i).sd:Int))=((spAt ss i).own:Int)+((spAt ss i).sd:Int):=Go.IntWalk.wrap64_in _ (by omega);have hx0:(0:Int)<((spAt ss i).own:Int)+((spAt ss i).sd:Int):=by omega
 generalize sz7 zs7=Z at HL3 HZ;generalize sz7 (spAt ss i)=X at HR HL HL2 HL3 H1 HAT;generalize ((spAt ss i).own:Int)=A at HAT hx hx0;generalize ((spAt ss i).sd:Int)=D at HAT hx hx0;obtain ⟨q,hq⟩:∃q:Int,q=(i:Int)+1:=⟨_,rfl⟩;rw [← hq];have h3:q-1=(i:Int):=by omega
 clear h ok hq hm hM k1 k2 k3;go_enter Tryz.func95,Tryz.ntmps95
 go_wp2_with (first
  |((with_reducible refine Zk 14 13 ?_);refine wpList_load_mid rfl _ _ rfl b (i * 39) rfl X _ HR.out Tryz.underlying153 rfl HL.out ?_)
  |((with_reducible refine Zv 5 ?_);refine Zh _ rfl _ rfl _ HZ.out ?_;intro w1 b5 hg5 hl5 B5 b1;have HB5:=Za B5;have Hg5:=Za hg5;have HB1:=Za b1;clear B5 hg5 hl5 b1)
  |((with_reducible refine Zag 5 ?_);refine Zf _ rfl _ _ _ rfl b5 _ X.toArray rfl rfl HB5.out HL2.out HL3.out (all_oneCell_toArray H1.out) ?_;intro w2 B6 g6;have e1:=B6.cell 37;have e2:=B6.cell 38;simp only [List.getElem?_toArray] at e1 e2;rw [HAT.out.2.2.2.2.2.1] at e1;rw [HAT.out.2.2.2.2.2.2] at e2;have HG6:=Za g6;clear B6 g6))
 go_ret;exact ⟨rfl,Ze HB1.out HG6.out Hg5.out⟩
end Go.Proofs.YtlclabbnpjobgaaGreatDoor
