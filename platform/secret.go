package platform

import (
	"strconv"

	"blotter/api"
	"blotter/digest"
)

// mostSecrets is how many there are at a time.
const mostSecrets = 2

// secret is the one of a number.
func secret(n int) api.Secret {
	sum := digest.Sha256([]byte("secret " + strconv.Itoa(n)))
	return api.Secret{ID: n, Bytes: sum[:]}
}

// rotate makes another secret, the newest one; the oldest one goes, if there are too many.
func (w *World) rotate() {
	newest := w.secrets[len(w.secrets)-1]
	w.secrets = append(w.secrets, secret(newest.ID+1))
	if len(w.secrets) > mostSecrets {
		w.secrets = w.secrets[1:]
	}
}
